/-
  PROVED HERE: what the texts DAWalked, DAAcc, DAAwake, DAApd, DASp say.
-/
import Derived.Test.YtjkebndkeamijaaGreatDoorCA15
import Derived.Laws.AppendOwnNone
set_option maxRecDepth 100000
set_option maxHeartbeats 1000000
namespace Go.Proofs.YtjkebndkeamijaaGreatDoor
open Go.RowKit Go.Maps
def gTx (F:List gD)(p:Nat)(zs:List Int)(S:Nat->Bool)(i:Nat):Prop :=
 i<=zs.length/\(∃q,jU F (kP F p) (zs.take i) q)/\((i=zs.length/\∀q,S q=true↔jU F (kP F p) zs q)\/(i<zs.length/\(∀q,S q=false)/\∀q,¬jU F (kP F p) (zs.take (i+1)) q))
def gZf (w0 w:World)(Bw:Nat)(F:List gD)(S:Nat->Bool):Prop:=w0.heap.size<=Bw/\∃lv bh bs,w0.heap.size<=bh/\w0.heap.size<=bs/\pP w Bw lv bh bs F.length F S
theorem gVr {w:World}{b n:Nat}{D:DataW Unit}{S:Nat->Bool}(h:w.ownsMap Tryz.prog 3 unitElem b n D)(hD:∀kl,Maps.has D kl=true↔∃p:Nat,kl=.int .i64 (p:Int)/\S p=true):Maps.size D=0↔∀p,S p=false:=by
 obtain⟨es,e,_,hk⟩:=h.entries gBc
 subst e
 rw[Maps.size_eq]
 constructor
 ·intro h0 p
  have:es=[]:=List.length_eq_zero_iff.1 h0
  subst this;cases hp:S p with
  | false=>rfl
  | true=>
   have:=(hD (.int .i64 (p:Int))).2 ⟨p,rfl,hp⟩
   cases this
 ·intro hS
  cases es with
  | nil=>rfl
  | cons x r=>
   have:Maps.has (.map (x::r)) x.1=true:=List.any_eq_true.2 ⟨x,zzg ..,WideAt.sameKey_self (hk x (zzg ..))⟩
   obtain⟨p,_,hp⟩:=(hD x.1).1 this;rw[hS p] at hp;cases hp
theorem gVo {F:List gD}{p:Nat}{zs:List Int}{i:Nat}{t:Int}(h:zs[i]? = some t):jU F (kP F p) (zs.take (i+1))=wA F (jU F (kP F p) (zs.take i)) t:=by
 rw[List.take_add_one,h]
 exact gEb F _ _ _
theorem gNb {F:List gD}{S S' : Nat->Prop}(h:∀q,S q↔S' q)(t:Int)(q:Nat):wA F S t q↔wA F S' t q:=by
 constructor
 ·rintro⟨a,x,r,k,h1,h2⟩
  exact⟨a,x,r,k,(h a).1 h1,h2⟩
 ·rintro⟨a,x,r,k,h1,h2⟩
  exact⟨a,x,r,k,(h a).2 h1,h2⟩
theorem gVg (n:Nat)(t:DataW Unit)(v:Value)(ga:Option Addr)(gl gc:Nat)(gs:List Grp)(za:Option Addr)(zl zc:Nat)(w:World)(h:Ex w n t v)(hN:oG n t)(hG:iS w ga gl gs)(hc:chk n t gs≠0) :
  Calls Tryz.prog 86 #[v,.slice ga gl gc,.slice za zl zc] w fun e w' => ∃Bw,e=.returned (.tuple #[.pointer (some ⟨Bw,0,none⟩),.int .i64 0])/\w'.heap[Bw]? = some (.cells #[.slice none 0 0,.map none,.map none] 163 (0,0))/\Below w.heap.size w w' := by
 have H1:Hid (∀W,Below w.heap.size w W->Calls Tryz.prog 117 #[v,.slice ga gl gc] W fun e w' => e=.returned (.int .i64 (chk n t gs))/\Below W.heap.size W w'):=fun W hW=>vD n t v ga gl gc gs W (Ex.below hW _ _ _ h) hN (hG.below hW)
 generalize chk n t gs=c at *
 have e0:(c==0)=false:=by simpa using hc
 have e1:(c != 0)=true:=by simp[bne,e0]
 have HB0:Hid (∀o,Below w.heap.size w (w.alloc o)):=fun o=>(zzd _ w).alloc (zzb _) _
 obtain⟨k,s,a,len,cap,rfl⟩:∃k s a len cap,v=.agg #[.int .i64 k,.string s,.slice a len cap]:=by
  exact k130
 clear h hN hG hc
 go_enter Tryz.func86,Tryz.ntmps86
 go_wp2_with fail
 refine(H1.out _ (HB0.out _)).mono ?_
 rintro e W ⟨rfl,hW⟩
 have hB1:Below w.heap.size w W:=(HB0.out _).trans (hW.mono (by simp))
 have HE:Hid ((W.alloc (.cells #[.slice none 0 0,.map none,.map none] 163)).heap[W.heap.size]? = some (.cells #[.slice none 0 0,.map none,.map none] 163 (0,0))/\Below w.heap.size w (W.alloc (.cells #[.slice none 0 0,.map none,.map none] 163))):=⟨World.alloc_heap_new W _,hB1.alloc hB1.size _⟩
 clear hW hB1
 go_wp2
 go_ret2
 exact⟨_,rfl,HE.out⟩
theorem gAl (n:Nat)(t:DataW Unit)(v:Value)(ga:Option Addr)(gl gc:Nat)(gs:List Grp)(za:Option Addr)(zl zc:Nat)(zs:List Int)(w:World)(h:Ex w n t v)(hN:oG n t)(hG:iS w ga gl gs)(hZ:kA w za zl zs)(hc:chk n t gs=0) :
  Calls Tryz.prog 86 #[v,.slice ga gl gc,.slice za zl zc] w fun e w' => ∃(Bw:Nat) (S:Nat->Bool) (i:Nat),e=.returned (.tuple #[.pointer (some ⟨Bw,0,none⟩),.int .i64 (i:Int)])/\gZf w w' Bw (kC gs n t) S/\gTx (kC gs n t) (rP gs n t) zs S i/\Below w.heap.size w w' := by
 have H1:Hid (∀W,Below w.heap.size w W->Calls Tryz.prog 117 #[v,.slice ga gl gc] W fun e w' => e=.returned (.int .i64 0)/\Below W.heap.size W w'):=fun W hW=>by
  have:=vD n t v ga gl gc gs W (Ex.below hW _ _ _ h) hN (hG.below hW)
  rwa [hc] at this
 obtain⟨hsane,hgr,hsz⟩:=gBo hc
 obtain⟨hsound,hfirst⟩:=vF hc
 have hneed:qQ subs n t<=40003 * size subs n t:=hEp subs n t hsz (fun _ _ _ _=>.inr trivial)
 have HB0:Hid (∀o,Below w.heap.size w (w.alloc o)):=fun o=>(zzd _ w).alloc (zzb _) _
 obtain⟨k,s,a,len,cap,rfl⟩:∃k s a len cap,v=.agg #[.int .i64 k,.string s,.slice a len cap]:=by
  exact k130
 obtain⟨hzl,hzs,_⟩:=id hZ
 have HF0:Hid (∀W:World,Below (w.alloc (.cells #[.int .i64 k,.string s,.slice a len cap] 69)).heap.size (w.alloc (.cells #[.int .i64 k,.string s,.slice a len cap] 69)) W->W.cell? ⟨w.heap.size,0,none⟩=some (.int .i64 k)/\W.cell? ⟨w.heap.size,1,none⟩=some (.string s)/\W.cell? ⟨w.heap.size,2,none⟩=some (.slice a len cap)/\Below w.heap.size w W):=fun W hW=>lT hW
 -- the plan, and lay
 have HL:Hid (∀W:World,Below (w.alloc (.cells #[.int .i64 k,.string s,.slice a len cap] 69)).heap.size (w.alloc (.cells #[.int .i64 k,.string s,.slice a len cap] 69)) W →
   ∃W2,W2=(W.alloc (.cells #[.int .u16 0,.slice none 0 0,.int .i64 0] 167)).alloc (.cells #[.slice ga gl gc,.slice (some ⟨W.heap.size,0,none⟩) 1 1] 169)/\W2.cell? ⟨w.heap.size,0,none⟩=some (.int .i64 k)/\W2.cell? ⟨w.heap.size,1,none⟩=some (.string s)/\W2.cell? ⟨w.heap.size,2,none⟩=some (.slice a len cap) ∧
   Calls Tryz.prog 118 #[.pointer (some ⟨W.heap.size+1,0,none⟩),.agg #[.int .i64 k,.string s,.slice a len cap],.int .i64 0] W2 fun e W3=>e=.returned (.int .i64 (rP gs n t:Int))/\∃g cap,W3.cell? ⟨W.heap.size+1,1,none⟩=some (.slice (some ⟨g,0,none⟩) (kC gs n t).length cap)/\nI W3 (.slice (some ⟨g,0,none⟩) (kC gs n t).length cap) (kC gs n t)/\Below w.heap.size w W3):=by
  intro W hW;have hBw:=(HF0.out W hW).2.2.2;obtain⟨W2,hW2⟩:∃W2,W2=(W.alloc (.cells #[.int .u16 0,.slice none 0 0,.int .i64 0] 167)).alloc (.cells #[.slice ga gl gc,.slice (some ⟨W.heap.size,0,none⟩) 1 1] 169):=⟨_,rfl⟩;(have hb2:Below W.heap.size W W2:=by rw[hW2];exact((zzd _ W).alloc (zzb _) _).alloc (by simp) _);(have hs2:W2.heap.size=W.heap.size+2:=by rw[hW2];simp);have m0:W2.heap[W.heap.size]? = some (.cells #[.int .u16 0,.slice none 0 0,.int .i64 0] 167 (0,0)):=by rw[hW2,zzf _ _ _ (by simp)];exact World.alloc_heap_new W _
  have m1:W2.heap[W.heap.size+1]? = some (.cells #[.slice ga gl gc,.slice (some ⟨W.heap.size,0,none⟩) 1 1] 169 (0,0)):=by
   rw[hW2]
   have:=World.alloc_heap_new (W.alloc (.cells #[.int .u16 0,.slice none 0 0,.int .i64 0] 167)) (.cells #[.slice ga gl gc,.slice (some ⟨W.heap.size,0,none⟩) 1 1] 169)
   rwa [World.size_alloc] at this
  have hPlan:iA (fun b=>W.heap.size<=b) W2 (W.heap.size+1) (.slice ga gl gc) [((0,[],0):gD)]:=by
   refine⟨.slice (some ⟨W.heap.size,0,none⟩) 1 1,[(0,.slice none 0 0,0)],m1,oo,⟨rfl,.inr ⟨W.heap.size,1,_,rfl,zzn _,m0,zzb _,by unfold maxLen;omega,rfl,rfl⟩⟩,fun g hg=>?_,rfl,fun i x hx=>?_,fun i j ri rj g hi hj=>?_⟩
   ·have:=pA hg
    omega
   ·cases i with
    | zero=>
     simp at hx;subst hx;exact⟨_,rfl,rfl,rfl,World.ownsRow_nil ..,fun g hg=>by cases hg⟩
    | succ i=>simp at hx
   ·cases i with
    | zero=>cases j with
     | zero=>intro _ _;rfl
     | succ j=>simp at hj
    | succ i=>simp at hi
  obtain⟨q0,q1,q2,_⟩:=HF0.out W2 (hW.trans (hb2.mono hW.size));refine⟨W2,hW2,q0,q1,q2,?_⟩;have hsz1:w.heap.size<=W.heap.size:=hBw.size
  have:=gXq w gs ga gl gc hG hgr n t _ W2 0 (fun b=>W.heap.size<=b) (W.heap.size+1) _ h hsane (hBw.trans (hb2.mono hsz1)) (fun b hb=>by omega) hPlan gEz (by simp) (by simp;omega)
  refine this.mono ?_;rintro e W3 ⟨rfl,A', hP', hF'⟩;obtain⟨lv,hblk,hpl⟩:=hP'.places;obtain⟨g,cap', rfl,_⟩:=hpl.slice hsound.wf.pos;refine⟨rfl,g,cap', (mN hblk).2.1,hpl,?_⟩;exact(hBw.trans (hb2.mono hsz1)).trans (hF'.toBelow (base:=w.heap.size) oo (fun b hb hA=>by omega))
 -- the walk, and the first set
 have HM:Hid (∀(W3:World) (g cap:Nat),nI W3 (.slice (some ⟨g,0,none⟩) (kC gs n t).length cap) (kC gs n t)->Below w.heap.size w W3->∃W4,W4=((W3.alloc (.map #[] 0)).alloc (.map #[] 0)).alloc (.cells #[.slice (some ⟨g,0,none⟩) (kC gs n t).length cap,.map (some W3.heap.size),.map (some (W3.heap.size+1))] 163)/\W4.cell? ⟨W3.heap.size+1+1,0,none⟩=some (.slice (some ⟨g,0,none⟩) (kC gs n t).length cap)/\W4.cell? ⟨W3.heap.size+1+1,1,none⟩=some (.map (some W3.heap.size)) ∧
   pP W4 (W3.heap.size+1+1) (.slice (some ⟨g,0,none⟩) (kC gs n t).length cap) W3.heap.size (W3.heap.size+1) (kC gs n t).length (kC gs n t) (fun _=>false)/\W4.heap.size=W3.heap.size+3/\Below w.heap.size w W4):=by
  intro W3 g cap' hpl hB3;obtain⟨W4,hW4⟩:∃W4,W4=((W3.alloc (.map #[] 0)).alloc (.map #[] 0)).alloc (.cells #[.slice (some ⟨g,0,none⟩) (kC gs n t).length cap', .map (some W3.heap.size),.map (some (W3.heap.size+1))] 163):=⟨_,rfl⟩
  have hblk:W4.heap[W3.heap.size+1+1]? = some (.cells #[.slice (some ⟨g,0,none⟩) (kC gs n t).length cap', .map (some W3.heap.size),.map (some (W3.heap.size+1))] 163 (0,0)):=by
   rw[hW4]
   have:=World.alloc_heap_new ((W3.alloc (.map #[] 0)).alloc (.map #[] 0)) (.cells #[.slice (some ⟨g,0,none⟩) (kC gs n t).length cap', .map (some W3.heap.size),.map (some (W3.heap.size+1))] 163)
   rwa [World.size_alloc,World.size_alloc] at this
  have hg4:W3.grownBy W4 none:=by rw[hW4];exact((World.grownBy_alloc W3 _ none).trans (World.grownBy_alloc _ _ none)).trans (World.grownBy_alloc _ _ none)
  have hemp:∀(X:World) (b:Nat),X.ownsMap Tryz.prog 3 (unitElem (H:=Unit)) b 0 (.map [])->kO X b (kC gs n t).length (fun _=>false):=fun X b hX=>gRf hX (fun p hp=>by cases hp) (fun kl=>⟨fun e=>(by cases e),fun ⟨_,_,e⟩=>(by cases e)⟩)
  have s1:kO W4 W3.heap.size (kC gs n t).length (fun _=>false):=by
   rw[hW4];exact hemp _ _ (((World.ownsMap_made W3 Tryz.prog 3 unitElem).alloc _).alloc _)
  have s2:kO W4 (W3.heap.size+1) (kC gs n t).length (fun _=>false):=by
   rw[hW4]
   have:=(World.ownsMap_made (W3.alloc (.map #[] 0)) Tryz.prog 3 (unitElem (H:=Unit))).alloc (.cells #[.slice (some ⟨g,0,none⟩) (kC gs n t).length cap', .map (some W3.heap.size),.map (some (W3.heap.size+1))] 163)
   rw[World.size_alloc] at this;exact hemp _ _ this
  obtain⟨c0,c1,_⟩:=vO hblk;refine⟨W4,hW4,c0,c1,⟨hblk,s1,s2,oo,hpl.others fun b c ty hb=>hg4.block b (zza.1 hb).1 (by simp)⟩,by rw[hW4];simp,?_⟩;rw[hW4];exact((hB3.alloc hB3.size _).alloc (by have:=hB3.size;simp;omega) _).alloc (by have:=hB3.size;simp;omega) _
 generalize hFd:kC gs n t=F at *
 generalize hfd:rP gs n t=first at *
 have HGS:Hid (∀(W4 W5 W6:World) (Bw bh bs:Nat) (lv:Value) (S' : Nat->Bool),pP W4 Bw lv bh bs F.length F (fun _=>false)->w.heap.size<=bh->w.heap.size<=bs->w.heap.size<=Bw->Below w.heap.size w W4->W4.drew.grownBy W5 none->W5.grownBy W6 (some bh)->kO W6 bh F.length S' -> oY F (fun _=>false) S' first->∃bh bs S,pP W6 Bw lv bh bs F.length F S/\w.heap.size<=bh/\w.heap.size<=bs/\(∀q,S q=true↔jU F (kP F first) (zs.take 0) q)/\(∃q,jU F (kP F first) (zs.take 0) q)/\Below w.heap.size w W6):=by
  intro W4 W5 W6 Bw bh bs lv S' hW h1 h2 h3 hB g5 g6 hS hG;have hB5:Below w.heap.size w W5:=hB.drew.trans ⟨g5.os,g5.tape,g5.output,g5.size,fun k hk=>g5.block k (zzl hk hB.size) (by simp)⟩;have hB6:Below w.heap.size w W6:=hB5.grown g6 hB5.size (fun k e=>by cases e;exact h1);(have hs5:∀k,k<W4.heap.size->W5.heap[k]? = W4.heap[k]? := fun k hk=>g5.block k hk (by simp));(have hs6:∀k,k<W4.heap.size->k≠bh->W6.heap[k]? = W4.heap[k]? := fun k hk hne=>(g6.block k (zzl hk g5.size) (fun e=>hne (by cases e;rfl))).trans (hs5 k hk));have hcs:∀(b:Nat) (c:Array Value) (ty:TypeId),W4.heap[b]? = some (.cells c ty (0,0))->W6.heap[b]? = W4.heap[b]? := fun b c ty hb=>hs6 b (zza.1 hb).1 (fun e=>by subst e;exact hW.here.notCells hb)
  have hsp:kO W6 bs F.length (fun _=>false):=by
   obtain⟨D,⟨es,ck,hb,r1⟩,r2⟩:=hW.spare;exact⟨D,⟨es,ck,(hs6 bs (zza.1 hb).1 (Ne.symm hW.ne)).trans hb,r1⟩,r2⟩
  refine⟨bh,bs,S', ⟨(hcs _ _ _ hW.blk).trans hW.blk,hS,hsp,hW.ne,hW.pl.others hcs⟩,h1,h2,fun q=>?_,⟨first,0,rfl⟩,hB6⟩;rw[(hG.iff (fun q x hq=>by cases hq)).2]
  show _↔kP F first q
  constructor
  ·rintro (e | e)
   ·cases e
   ·exact e
  ·intro e;exact .inr e
 have HRE:Hid (∀(W4:World) (g cap bh:Nat),Calls Tryz.prog 119 #[.slice (some ⟨g,0,none⟩) F.length cap,.map (some bh)] W4.drew fun e w' => e=.returned (.func (.func 151) #[] #[.pointer (some ⟨W4.heap.size+1,0,none⟩),.pointer (some ⟨W4.heap.size,0,none⟩),.pointer (some ⟨W4.heap.size+1+1,0,none⟩)])/\Clo w' bh W4.heap.size (W4.heap.size+1) (W4.heap.size+1+1) (.slice (some ⟨g,0,none⟩) F.length cap)/\W4.drew.grownBy w' none):=fun W4 g cap bh=>gDi W4.drew (some ⟨g,0,none⟩) F.length cap bh
 have HGR:Hid (∀(W4 W5:World) (Bw bh bs B1 B2 B3:Nat) (lv:Value),pP W4 Bw lv bh bs F.length F (fun _=>false)->W4.drew.grownBy W5 none->Clo W5 bh B1 B2 B3 lv->Calls Tryz.prog 151 #[.int .i64 (first:Int),.pointer (some ⟨B2,0,none⟩),.pointer (some ⟨B1,0,none⟩),.pointer (some ⟨B3,0,none⟩)] W5 fun e w' => e=.returned (.tuple #[])/\∃S', kO w' bh F.length S' /\ oY F (fun _=>false) S' first/\W5.grownBy w' (some bh)):=by
  intro W4 W5 Bw bh bs B1 B2 B3 lv hW g5 hC;exact gGy F lv bh B1 B2 B3 F.length rfl hsound.small hsound.lt hsound.next _ first W5 (fun _=>false) (zzb _) (kO.kept (w:=W4.drew) hW.here g5 (by simp)) (hW.pl.others fun b c ty hb=>g5.block b (zza.1 hb).1 (by simp)) hC hfirst
 -- a round
 have HT:Hid (∀(j:Nat) (tt:Int) (wr:World) (Bw bh bs:Nat) (lv:Value) (S:Nat->Bool),zs[j]? = some tt->pP wr Bw lv bh bs F.length F S->w.heap.size<=Bw->w.heap.size<=bh->w.heap.size<=bs->(∀q,S q=true↔jU F (kP F first) (zs.take j) q)->Below w.heap.size w wr->Calls Tryz.prog 120 #[.pointer (some ⟨Bw,0,none⟩),.int .i64 tt] wr fun e w' => e=.returned (.tuple #[])/\∃S', pP w' Bw lv bs bh F.length F S' /\ (∀q,S' q=true↔jU F (kP F first) (zs.take (j+1)) q)/\Below w.heap.size w w'):=by
  intro j tt wr Bw bh bs lv S hj hW h1 h2 h3 hS hB;refine(gQx F F.length hsound Bw bh bs lv S tt wr hW).mono ?_;rintro e W' ⟨rfl,S', hW', hS', hb0,hsm⟩;refine⟨rfl,S', hW', fun q=>?_,?_⟩
  ·rw[hS', gVo hj]
   exact gNb hS tt q
  ·exact hB.trans ⟨hb0.os,hb0.tape,hb0.output,hb0.size,fun k hk=>hsm k (zzl hk hB.size) oo oo oo⟩
 have HZ:Hid (∀(wr:World) (j:Nat),Below w.heap.size w wr->j<zl->∃b o x,za=some ⟨b,o,none⟩/\zs[j]? = some x/\wr.cell? ⟨b,o+j,none⟩=some (.int .i64 x)):=fun wr j hB hj=>by
  obtain⟨b,o,x,e1,e2,e3⟩:=hZ.at hj;exact⟨b,o,x,e1,e2,e3 wr hB⟩
 clear hZ h hN hG hc hsane hgr hsz hneed hfirst hFd hfd
 go_enter Tryz.func86,Tryz.ntmps86
 go_wp2_with fail
 refine(H1.out _ (HB0.out _)).mono ?_
 rintro e W ⟨rfl,hW⟩
 obtain⟨W2,hW2,x0,x1,x2,hlay⟩:=HL.out W hW
 obtain⟨y0,y1,y2,hBW⟩:=HF0.out W hW
 have hlt:w.heap.size<W.heap.size:=by have:=hW.size;simp at this;omega
 have HW2:Hid (W2=(W.alloc (.cells #[.int .u16 0,.slice none 0 0,.int .i64 0] 167)).alloc (.cells #[.slice ga gl gc,.slice (some ⟨W.heap.size,0,none⟩) 1 1] 169)):=hW2
 subst hW2
 clear hW HL HF0 H1 HB0 hBW
 go_wp2_with fail
 refine hlay.mono ?_
 rintro e W3 ⟨rfl,g,cap3,p1,hpl,hB3⟩
 obtain⟨W4,hW4,d0,d1,hWalk,hs4,hB4⟩:=HM.out W3 g cap3 hpl hB3
 have HW4:Hid (W4=((W3.alloc (.map #[] 0)).alloc (.map #[] 0)).alloc (.cells #[.slice (some ⟨g,0,none⟩) F.length cap3,.map (some W3.heap.size),.map (some (W3.heap.size+1))] 163)):=hW4
 have hs3:w.heap.size<=W3.heap.size:=hB3.size
 have HS4:Hid (W4.heap.size=W3.heap.size+3):=hs4
 clear hs4
 have hmm:=@run_makeMap Tryz.prog
 clear hlay hW4 HM x0 x1 x2 y0 y1 y2 hpl hB3 HW2
 go_wp2_with fail
 rw[<-HW4.out]
 clear HW4 hmm p1
 refine wp_region_held_drew (S:=fun X=>X.cell? ⟨W3.heap.size+1+1,0,none⟩=some (.slice (some ⟨g,0,none⟩) F.length cap3)/\X.cell? ⟨W3.heap.size+1+1,1,none⟩=some (.map (some W3.heap.size))) hmx ⟨d0,d1⟩ (fun hS=>?_)
 refine gA 0 (some 35) hS ?_ (hy:=by intro w hSw;obtain⟨s1,s2⟩:=hSw;(try go_simp);with_reducible rfl)
 refine gA 1 (some 36) hS ?_ (hy:=by intro w hSw;obtain⟨s1,s2⟩:=hSw;go_simp;with_reducible rfl)
 refine gA 2 (some 37) hS ?_ (hy:=by intro w hSw;obtain⟨s1,s2⟩:=hSw;go_simp;with_reducible rfl)
 refine gA 3 (some 38) hS ?_ (hy:=by intro w hSw;obtain⟨s1,s2⟩:=hSw;go_simp;with_reducible rfl)
 refine gA 4 (some 39) hS ?_ (hy:=by intro w hSw;obtain⟨s1,s2⟩:=hSw;(try go_simp);with_reducible rfl)
 refine gA 5 (some 40) hS ?_ (hy:=by intro w hSw;obtain⟨s1,s2⟩:=hSw;go_simp;with_reducible rfl)
 refine gA 6 (some 41) hS ?_ (hy:=by intro w hSw;obtain⟨s1,s2⟩:=hSw;go_simp;with_reducible rfl)
 refine gA 7 (some 42) hS ?_ (hy:=by intro w hSw;obtain⟨s1,s2⟩:=hSw;go_simp;with_reducible rfl)
 refine gA 9 (some 44) hS ?_ (hy:=by intro w hSw;obtain⟨s1,s2⟩:=hSw;(try go_simp);with_reducible rfl)
 refine gT 8 kr rfl (fun K hK=>?_)
 go_simp
 refine(HRE.out _ _ _ _).mono ?_
 rintro e W5 ⟨rfl,hC5,hg5⟩
 have hBlt:W3.heap.size+1+1<W4.heap.size:=by have:=HS4.out;omega
 have hS5:W5.cell? ⟨W3.heap.size+1+1,0,none⟩=some (.slice (some ⟨g,0,none⟩) F.length cap3)/\W5.cell? ⟨W3.heap.size+1+1,1,none⟩=some (.map (some W3.heap.size)):=by
  have hb:W5.heap[W3.heap.size+1+1]? = W4.drew.heap[W3.heap.size+1+1]? := hg5.block _ hBlt (by simp);exact⟨(zzi (w:=W4.drew) (a:=⟨W3.heap.size+1+1,0,none⟩) hb).trans d0,(zzi (w:=W4.drew) (a:=⟨W3.heap.size+1+1,1,none⟩) hb).trans d1⟩
 have HCA:=HGR.out W4 W5 _ _ _ _ _ _ _ hWalk hg5 hC5
 refine hK.out _ _ hS5 (fun _=>?_)
 clear hK K
 try simp only[gQ]
 refine gT 10 kr rfl (fun K hK=>?_)
 go_simp
 refine HCA.mono ?_
 rintro e W6 ⟨rfl,S0,hS6,hG6,hg6⟩
 have HI0:Hid (∃bh bs S,pP W6 (W3.heap.size+1+1) (.slice (some ⟨g,0,none⟩) F.length cap3) bh bs F.length F S/\w.heap.size<=bh/\w.heap.size<=bs/\(∀q,S q=true↔jU F (kP F first) (zs.take 0) q)/\(∃q,jU F (kP F first) (zs.take 0) q)/\Below w.heap.size w W6):=HGS.out W4 W5 W6 _ _ _ _ S0 hWalk oo oo oo hB4 hg5 hg6 hS6 hG6
 have hS6' : W6.cell? ⟨W3.heap.size+1+1,0,none⟩=some (.slice (some ⟨g,0,none⟩) F.length cap3)/\W6.cell? ⟨W3.heap.size+1+1,1,none⟩=some (.map (some W3.heap.size)):=by
  have hb:W6.heap[W3.heap.size+1+1]? = W5.heap[W3.heap.size+1+1]? := hg6.block _ (zzl hBlt hg5.size) (by simp;omega);exact⟨(zzi (w:=W5) (a:=⟨W3.heap.size+1+1,0,none⟩) hb).trans hS5.1,(zzi (w:=W5) (a:=⟨W3.heap.size+1+1,1,none⟩) hb).trans hS5.2⟩
 refine hK.out _ _ hS6' (fun _=>?_)
 clear hK K
 try simp only[gQ]
 refine wpAnyH_done kr ?_ _
 obtain⟨Bw,hBw⟩:∃Bw,W3.heap.size+1+1=Bw:=⟨_,rfl⟩
 have HBw:Hid (w.heap.size<=Bw):=by show _<=_;omega
 have hzl' : (zl:Int)<=9223372036854775807:=by omega
 have HZL:Hid (zs.length=zl):=hzl
 clear HCA hS6' hS5 hC5 hg5 hg6 hS6 hG6 hWalk hB4 HGS HGR HRE d0 d1 hS HS4 hBlt hzl hs3 hlt
 rw[hBw] at HI0 ⊢
 clear hBw
 go_wp2_with fail
 go_loopw [48] (fun i wr=>∃j:Nat,j<=zl/\i=.int .i64 (j:Int)/\∃bh bs S,pP wr Bw (.slice (some ⟨g,0,none⟩) F.length cap3) bh bs F.length F S/\w.heap.size<=bh/\w.heap.size<=bs/\(∀q,S q=true↔jU F (kP F first) (zs.take j) q)/\(∃q,jU F (kP F first) (zs.take j) q)/\Below w.heap.size w wr) (fun i _=>zl - (intOf i).toNat)
 case atStart=>exact⟨0,zzn _,rfl,HI0.out⟩
 case round=>
  obtain⟨j,hj,rfl,bh,bs,S,hWk,hbh,hbs,hSq,hne,hB⟩:=hrel
  by_cases hlt:j<zl
  ·obtain⟨b,o,x,rfl,hx,hcx⟩:=HZ.out wr j hB hlt
   have HCA:=HT.out j x wr Bw bh bs _ S hx hWk HBw.out hbh hbs hSq hB;(have hji:(j:Int)<(zl:Int):=by omega);have HNE:Hid (∃q,jU F (kP F first) (zs.take j) q):=hne;clear hWk hSq hne hB HT HI0;(go_wp2_with fail);refine HCA.mono ?_;rintro e W' ⟨rfl,S', hW', hS', hB'⟩;clear HCA;obtain⟨c0,c1,_⟩:=vO hW'.blk;obtain⟨D,hown,_,hD⟩:=id hW'.here;have hsz:=gVr hown hD
   have HE1:Hid (Maps.size D=0->gZf w W' Bw F S' /\ gTx F first zs S' j/\Below w.heap.size w W'):=fun h0=>by
    have hall:=hsz.1 h0;refine⟨⟨HBw.out,_,_,_,hbs,hbh,hW'⟩,⟨by have:=HZL.out;omega,HNE.out,.inr ⟨by have:=HZL.out;omega,hall,fun q hq=>?_⟩⟩,hB'⟩
    have:=(hS' q).2 hq
    rw[hall q] at this;cases this
   have HE2:Hid (Maps.size D≠0->∃bh bs S,pP W' Bw (.slice (some ⟨g,0,none⟩) F.length cap3) bh bs F.length F S/\w.heap.size<=bh/\w.heap.size<=bs/\(∀q,S q=true↔jU F (kP F first) (zs.take (j+1)) q)/\(∃q,jU F (kP F first) (zs.take (j+1)) q)/\Below w.heap.size w W'):=fun h0=>by
    refine⟨bs,bh,S', hW', hbs,hbh,hS', ?_,hB'⟩
    have:¬∀p,S' p=false:=fun h=>h0 (hsz.2 h)
    have hex:∃p,S' p≠false:=Classical.not_forall.1 this;obtain⟨p,hp⟩:=hex;exact⟨p,(hS' p).1 (by cases h:S' p with | true=>rfl | false=>exact absurd h hp)⟩
   clear hsz hD hW' hS' hB' hx hcx
   by_cases h0:Maps.size D=0
   ·have hd:(((Maps.size D:Nat):Int)==0)=true:=by rw[h0];rfl
    have HE:Hid (gZf w W' Bw F S' /\ gTx F first zs S' j/\Below w.heap.size w W'):=HE1.out h0;clear HE1 HE2 h0
    go_wp2_with (first
     | (at_len;refine wpList_len_own _ rfl _ 161 rfl 3 172 Tryz.underlying161 _ _ F.length D rfl hown ?_)
     | go_in)
    go_ret2;exact⟨Bw,S', j,rfl,HE.out⟩
   ·have hd:(((Maps.size D:Nat):Int)==0)=false:=by rw[beq_eq_false_iff_ne];omega
    have HE:Hid (∃bh bs S,pP W' Bw (.slice (some ⟨g,0,none⟩) F.length cap3) bh bs F.length F S/\w.heap.size<=bh/\w.heap.size<=bs/\(∀q,S q=true↔jU F (kP F first) (zs.take (j+1)) q)/\(∃q,jU F (kP F first) (zs.take (j+1)) q)/\Below w.heap.size w W'):=HE2.out h0;clear HE1 HE2 h0
    go_wp2_with (first
     | (at_len;refine wpList_len_own _ rfl _ 161 rfl 3 172 Tryz.underlying161 _ _ F.length D rfl hown ?_)
     | go_in)
    go_roundw
    case rel=>exact⟨j+1,oo,by first | rfl | go_num,HE.out⟩
    case measure=>simp[intOf];omega
  ·obtain rfl:j=zl:=by omega
   have HE:Hid (gZf w wr Bw F S/\gTx F first zs S j/\Below w.heap.size w wr):=by
    have hl:=HZL.out;refine⟨⟨HBw.out,_,_,_,hbh,hbs,hWk⟩,⟨oo,hne,.inl ⟨hl.symm,fun q=>?_⟩⟩,hB⟩;rw[hSq q,zzm oo]
   clear hWk hSq hne hB HT HI0 HZ;go_wp2;go_ret2;exact⟨Bw,S,j,rfl,HE.out⟩
def iZ (gs:List Grp):Nat->DataW Unit->List Int->Prop:=qE iE (fun t=>kD gs (nV t)) subs
theorem gWd {F:List gD}(h0:F[0]? = some (0,[],0)):∀{k:Nat} {v:List Int},jZ F k 0 v->v=[]:=by
 intro k v h
 cases k with
 | zero=>exact h.2
 | succ k=>
  rcases h with h | ⟨x,hx,h⟩
  ·exact h.2
  ·rw[h0] at hx
   cases hx;rcases h with ⟨_,q,hq,_⟩ | ⟨h,_⟩
   ·cases hq
   ·exact absurd rfl h
theorem gVh {F:List gD}{q:Nat}{v:List Int}{m:Nat}(hR:jZ F m q v):∀{k p:Nat},Via F k p q->jZ F (k+m) p v:=by
 intro k
 induction k with
 | zero=>rintro p rfl;simpa using hR
 | succ k ih=>
  intro p hp;rw[show k+1+m=k+m+1 from by omega];rcases hp with rfl | ⟨y,hy,hz,s,hs,hp⟩
  ·exact jZ.upto oo hR
  ·exact .inr ⟨y,hy,.inl ⟨hz,s,hs,ih hp⟩⟩
theorem gAf {n:Nat}{t:DataW Unit}{gs:List Grp}(h:chk n t gs=0)(zs:List Int):jU (kC gs n t) (kP (kC gs n t) (rP gs n t)) zs 0↔iZ gs n t zs:=by
 obtain⟨h1,h2,h3⟩:=gBo h
 obtain⟨hS,hf⟩:=vF h
 have h0:=hS.wf.1
 rw[<-gDh h0 zs _ (gDd _ _)]
 have hlike:gAh (kC gs n t) (kC gs n t) 1 (kC gs n t).length:=fun _ _ _=>rfl
 constructor
 ·rintro⟨a,k,⟨m,hm⟩,hr⟩
  obtain⟨u,v,k', _,rfl,hu,hv⟩:=gXp iE (fun t=>kD gs (nV t)) subs (F:=kC gs n t) n t h1 0 [((0,[],0):gD)] gEz (by simp) hlike (m+k) zs (gVh hr hm);rw[gWd h0 hv,List.append_nil];exact hu
 ·intro hl
  obtain⟨k', hk⟩:=hCc iE (fun t=>kD gs (nV t)) subs (F:=kC gs n t) n t h1 0 [((0,[],0):gD)] gEz (by simp) hlike zs [] 0 hl ⟨rfl,rfl⟩;rw[List.append_nil] at hk;exact⟨_,k', ⟨0,rfl⟩,hk⟩
theorem gWe {F:List gD}{p:Nat}{zs:List Int}{S:Nat->Bool}{i:Nat}(h:gTx F p zs S i):S 0=true↔jU F (kP F p) zs 0:=by
 obtain⟨h1,h2,⟨_,h3⟩ | ⟨h3,h4,h5⟩⟩:=h
 ·exact h3 0
 ·rw[h4 0]
  constructor
  ·intro e;cases e
  ·intro e
   exfalso;have hsplit:zs=zs.take (i+1)++zs.drop (i+1):=(List.take_append_drop _ _).symm;rw[hsplit] at e;unfold jU at e;rw[List.foldl_append] at e;exact gBv (S:=List.foldl (wA F) (kP F p) (zs.take (i+1))) h5 (zs.drop (i+1)) 0 e
theorem gXh (w:World):(Instr.lookup 161 (.map none) (.int .i64 0) true).run Tryz.prog w=.ok (.tuple #[.agg #[],.bool false]) w:=by
 have:=Maps.look_nil (P:=Tryz.prog) (w:=w) (t:=161) (e:=172) true gBc Tryz.underlying161 (gMl w) (keyOf_int_mk Tryz.underlying3 (a:=0) (by decide))
 simpa using this
theorem gLd (w0 w:World)(Bw:Nat)(F:List gD)(S:Nat->Bool)(h:gZf w0 w Bw F S)(_hN:F.length<=1000000000) :
  Calls Tryz.prog 87 #[.pointer (some ⟨Bw,0,none⟩)] w fun e w' => e=.returned (.bool (S 0))/\Below w.heap.size w w' := by
 obtain⟨_,lv,bh,bs,_,_,hW⟩:=h
 obtain⟨c0,c1,_⟩:=vO hW.blk
 obtain⟨D,hown,_,hD⟩:=hW.here
 have hk:=gLq hD 0
 have HB0:Hid (∀o,Below w.heap.size w (w.alloc o)):=fun o=>(zzd _ w).alloc (zzb _) _
 generalize S 0=b at *
 clear hD hW
 go_enter Tryz.func87,Tryz.ntmps87
 go_wp2_with (first
  | (at_lookup;refine wpList_lookup_own_unit _ rfl _ _ 161 rfl 3 172 gBc Tryz.underlying161 (gMl _) bh F.length D rfl hown _ _ rfl (keyOf_int_mk Tryz.underlying3 (a:=0) (by decide)) ?_;rw[show Maps.has D (.int .i64 0)=b from hk])
  | go_in)
 go_ret
 exact⟨rfl,HB0.out _⟩
theorem gSn (w:World)(Bw:Nat)(h:w.heap[Bw]? = some (.cells #[.slice none 0 0,.map none,.map none] 163 (0,0))) :
  Calls Tryz.prog 87 #[.pointer (some ⟨Bw,0,none⟩)] w fun e w' => e=.returned (.bool false)/\Below w.heap.size w w' := by
 obtain⟨c0,c1,_⟩:=vO h
 have hl:=fun w=>gXh w
 have HB0:Hid (∀o,Below w.heap.size w (w.alloc o)):=fun o=>(zzd _ w).alloc (zzb _) _
 clear h
 go_enter Tryz.func87,Tryz.ntmps87
 go_wp2
 go_ret
 exact⟨rfl,HB0.out _⟩
theorem zM (n:Nat)(t:DataW Unit)(v:Value)(ga:Option Addr)(gl gc:Nat)(gs:List Grp)(za:Option Addr)(zl zc:Nat)(zs:List Int)(w:World)(h:Ex w n t v)(hN:oG n t)(hG:iS w ga gl gs)(hZ:kA w za zl zs) :
  Calls Tryz.prog 46 #[v,.slice ga gl gc,.slice za zl zc] w fun e w' => ∃b,e=.returned (.bool b)/\(b=true↔(chk n t gs=0/\iZ gs n t zs))/\Below w.heap.size w w' := by
 have HB0:Hid (∀o,Below w.heap.size w (w.alloc o)):=fun o=>(zzd _ w).alloc (zzb _) _
 by_cases hc:chk n t gs=0
 ·have H1:Hid (∀W,Below w.heap.size w W->Calls Tryz.prog 86 #[v,.slice ga gl gc,.slice za zl zc] W fun e w' => ∃(Bw:Nat) (S:Nat->Bool) (i:Nat),e=.returned (.tuple #[.pointer (some ⟨Bw,0,none⟩),.int .i64 (i:Int)])/\gZf W w' Bw (kC gs n t) S/\gTx (kC gs n t) (rP gs n t) zs S i/\Below W.heap.size W w'):=fun W hW=>gAl n t v ga gl gc gs za zl zc zs W (Ex.below hW _ _ _ h) hN (hG.below hW) (hZ.below hW) hc
  have hsm:=(vF hc).1.small
  have HE:Hid (∀S i,gTx (kC gs n t) (rP gs n t) zs S i->(S 0=true↔(chk n t gs=0/\iZ gs n t zs))):=fun S i hr=>by
   rw[gWe hr,gAf hc zs];exact⟨fun e=>⟨hc,e⟩,fun e=>e.2⟩
  obtain⟨k,s,a,len,cap,rfl⟩:∃k s a len cap,v=.agg #[.int .i64 k,.string s,.slice a len cap]:=by
   exact k130
  clear h hN hG hZ hc;generalize kC gs n t=F at *;(generalize rP gs n t=first at *);go_enter Tryz.func46,Tryz.ntmps46;(go_wp2_with fail);refine(H1.out _ (HB0.out _)).mono ?_;rintro e W ⟨Bw,S,i,rfl,hM,hR,hW⟩;have HM:=gLd _ W Bw F S hM hsm;have hb:=HE.out S i hR;have HB:Hid (Below w.heap.size w W):=(HB0.out _).trans (hW.mono (by simp));have HI:Hid (S 0=true↔(chk n t gs=0/\iZ gs n t zs)):=hb;clear hM hR hW hb HE H1;generalize S 0=b at *;(go_wp2_with fail);refine HM.mono ?_;rintro e W2 ⟨rfl,hW2⟩;go_wp2;go_ret;exact⟨b,rfl,HI.out,HB.out.trans (hW2.mono HB.out.size)⟩
 ·have H1:Hid (∀W,Below w.heap.size w W->Calls Tryz.prog 86 #[v,.slice ga gl gc,.slice za zl zc] W fun e w' => ∃Bw,e=.returned (.tuple #[.pointer (some ⟨Bw,0,none⟩),.int .i64 0])/\w'.heap[Bw]? = some (.cells #[.slice none 0 0,.map none,.map none] 163 (0,0))/\Below W.heap.size W w'):=fun W hW=>gVg n t v ga gl gc gs za zl zc W (Ex.below hW _ _ _ h) hN (hG.below hW) hc
  have HI:Hid (false=true↔(chk n t gs=0/\iZ gs n t zs)):=⟨fun e=>(by cases e),fun e=>absurd e.1 hc⟩
  obtain⟨k,s,a,len,cap,rfl⟩:∃k s a len cap,v=.agg #[.int .i64 k,.string s,.slice a len cap]:=by
   exact k130
  clear h hN hG hZ hc;generalize iZ gs n t zs=Q at *;generalize (chk n t gs=0)=Q2 at *;go_enter Tryz.func46,Tryz.ntmps46;(go_wp2_with fail);refine(H1.out _ (HB0.out _)).mono ?_;rintro e W ⟨Bw,rfl,hM,hW⟩;have HM:=gSn W Bw hM;have HB:Hid (Below w.heap.size w W):=(HB0.out _).trans (hW.mono (by simp));clear hM hW H1;(go_wp2_with fail);refine HM.mono ?_;rintro e W2 ⟨rfl,hW2⟩;go_wp2;go_ret;exact⟨false,rfl,HI.out,HB.out.trans (hW2.mono HB.out.size)⟩
end Go.Proofs.YtjkebndkeamijaaGreatDoor
namespace Go.Proofs.YtjkebndkeamijaaGreatDoor
open Go.RowKit
theorem kA.one {w:World}{b:Nat}{x:Int}(hb:w.heap[b]? = some (.cells #[.int .i64 x] 3 (0,0))):kA w (some ⟨b,0,none⟩) 1 [x]:=by
 refine⟨rfl,oo,.inr ⟨b,0,rfl,(zza.1 hb).1,fun i y hy=>?_⟩⟩
 cases i with
 | zero=>simp at hy;subst hy;exact cell_of_row w b 0 _ _ _ hb
 | succ i=>simp at hy
end Go.Proofs.YtjkebndkeamijaaGreatDoor
namespace Go.Proofs.YtjkebndkeamijaaGreatDoor
open Go.ChangeShapes Go.WideShapes Go.ChangeAt Go.RowKit
def iG (zs:List Int):List Value:=zs.map (Value.int .i64)
theorem gLn (xs zs:List Int):iG xs++iG zs=iG (xs++zs):=(List.map_append ..).symm
theorem gWt (w:World)(base:Nat)(hb:base<=w.heap.size):(w.alloc (.cells #[] 3)).ownsRow base 3 1 (.slice (some ⟨w.heap.size,0,none⟩) 0 0) 0 (iG []) :=
 ⟨rfl,.inr ⟨w.heap.size,0,_,rfl,hb,World.alloc_heap_new w _,zzb _,by unfold maxLen;omega,rfl,rfl⟩⟩
theorem pJ {w:World}{base n:Nat}{v:Value}{zs:List Int}(h:w.ownsRow base 3 1 v n (iG zs))(hn:n<=9223372036854775807):∃a c,v=.slice a n c/\kA w a n zs:=by
 have hl:zs.length=n:=by
  have:=h.1
  unfold iG at this;rw[List.length_map] at this;omega
 rcases Nat.eq_zero_or_pos n with h0 | h0
 ·subst h0
  rcases h.2 with ⟨rfl,_⟩ | ⟨g,cap,cur,rfl,_⟩
  ·exact⟨none,0,rfl,hl,hn,.inl rfl⟩
  ·exact⟨_,_,rfl,hl,hn,.inl rfl⟩
 ·obtain⟨g,cap,rfl,hc⟩:=gY h h0
  obtain⟨hlt,_⟩:=gC h (g:=g) rfl;refine⟨_,_,rfl,hl,hn,.inr ⟨g,0,rfl,hlt,fun i x hx=>?_⟩⟩;rw[Nat.zero_add];exact hc i _ (by unfold iG;rw[List.getElem?_map,hx];rfl)
theorem iV {w:World}{base n:Nat}{v:Value}{e:TypeId}{sz:Nat}{xs:List Value}(h:w.ownsRow base e sz v n xs){g:Nat}(hg:v.ownBlock=some g):base<=g:=by
 rcases h.2 with ⟨rfl,_⟩ | ⟨g', cap,cur,rfl,hb,_⟩
 ·cases hg
 ·cases hg
  exact hb
theorem kH {w:World}{ops:Array Oper}{rest:List Oper}{o:Oper}{a:Act}{Q:Exit->Act->World->Prop}(hgd:o.guard=none)(s x:Operand)
  (ho:o.op=.call { callee:=.builtin .append,args:=#[s,x],argTypes:=#[61,61] }) (base:Nat) (v:Value) (n:Nat) (xs:List Int) (hs:a.eval s=v) (hown:w.ownsRow base 3 1 v n (iG xs))
  (za:Option Addr) (zl zc:Nat) (zs:List Int) (hx:a.eval x=.slice za zl zc) (hc:za=none->zc=0) (hZ:kA w za zl zs) (h63:n+zl<=1000000000) (hbase:base<=w.heap.size)
  (h:∀v' w', w'.ownsRow base 3 1 v' (n+zl) (iG (xs++zs))->Below base w w' -> wpList Tryz.prog ops Q rest (a.put o.dst v') w'):wpList Tryz.prog ops Q (o::rest) a w:=by
 obtain⟨i0,hi,hz0,hz1,hz2⟩:=info_parts gEu
 obtain⟨hl,_,hz⟩:=hZ
 cases za with
 | none=>
  have hzl:zl=0:=by
   rcases hz with hz | ⟨b,o,e,_⟩
   ·exact hz
   ·cases e
  subst hzl;rw[hc rfl] at hx
  have:zs=[]:=List.length_eq_zero_iff.1 hl
  subst this;refine wpList_append_own_none hgd s x 61 ho base 3 i0 1 Tryz.underlying61 hi v n _ hs hown hx ?_;refine h v w ?_ (zzd _ _);rw[List.append_nil];exact hown
 | some ad=>
  refine wpList_append_own_at w hgd s x 61 ho base 3 i0 _ 1 8 Tryz.underlying61 hi hz0 hz1 hz2 rfl (by decide) v n _ hs hown ad zl zc (iG zs) hx (by unfold iG;rw[List.length_map];omega) (fun j u hj=>?_) (fun u hu=>?_) (by unfold maxLen;omega) oo hbase ?_
  ·unfold iG at hj
   rw[List.getElem?_map] at hj;cases hq:zs[j]? with
   | none=>rw[hq] at hj;cases hj
   | some y=>
    rw[hq] at hj;cases hj;rcases hz with hz | ⟨b,o,e,_,hcc⟩
    ·have:=(zzc.1 hq).1
     omega
    ·cases e
     rw[gQi];exact hcc j y hq
  ·unfold iG at hu
   obtain⟨y,_,rfl⟩:=List.mem_map.1 hu
   rfl
  ·intro v' w' q1 q2 _ _
   rw[gLn] at q1;exact h v' w' q1 ((zzd base w).grown q2 hbase (fun k e=>iV hown e))
end Go.Proofs.YtjkebndkeamijaaGreatDoor
namespace Go.Proofs.YtjkebndkeamijaaGreatDoor
open Go.RowKit
structure gV where
 name:ByteArray
 expr:ByteArray
 leaf:Bool
 marks:Int
 least:Int
 most:Int
 lines:Bool
def gFg (s:gV):List Value:=[.string s.name,.string s.expr,.bool s.leaf,.int .i64 s.marks,.int .i64 s.least,.int .i64 s.most,.bool s.lines]
def gIm (s:gV):Value:=.agg #[.string s.name,.string s.expr,.bool s.leaf,.int .i64 s.marks,.int .i64 s.least,.int .i64 s.most,.bool s.lines]
def nH (w:World)(b o:Nat)(s:gV):Prop:=w.cell? ⟨b,o,none⟩=some (.string s.name)/\w.cell? ⟨b,o+1,none⟩=some (.string s.expr)/\w.cell? ⟨b,o+2,none⟩=some (.bool s.leaf)/\w.cell? ⟨b,o+3,none⟩=some (.int .i64 s.marks)/\w.cell? ⟨b,o+4,none⟩=some (.int .i64 s.least)/\w.cell? ⟨b,o+5,none⟩=some (.int .i64 s.most)/\w.cell? ⟨b,o+6,none⟩=some (.bool s.lines)
theorem nH.same {w w' : World}{b o:Nat}{s:gV}(h:nH w b o s)(hb:w'.heap[b]? = w.heap[b]?):nH w' b o s:=by
 have e:∀k,w'.cell? ⟨b,k,none⟩=w.cell? ⟨b,k,none⟩:=fun k=>zzi hb
 unfold nH
 rw[e,e,e,e,e,e,e]
 exact h
def rN (w:World)(a:Option Addr)(len:Nat)(l:List gV):Prop :=
 l.length=len/\len<=9223372036854775807/\(len=0\/∃b o,a=some ⟨b,o,none⟩/\b<w.heap.size/\∀i x,l[i]? = some x->nH w b (o+i * 7) x)
theorem rN.below {w w' : World}{a:Option Addr}{len:Nat}{l:List gV}(h:rN w a len l)(hb:Below w.heap.size w w'):rN w' a len l:=by
 obtain⟨h1,h2,h3⟩:=h
 refine⟨h1,h2,?_⟩
 rcases h3 with h3 | ⟨b,o,e,hlt,hc⟩
 ·exact .inl h3
 ·exact .inr ⟨b,o,e,zzl hlt hb.size,fun i x hx=>(hc i x hx).same (hb.block b hlt)⟩
theorem rN.at {w:World}{a:Option Addr}{len:Nat}{l:List gV}(h:rN w a len l){i:Nat}(hi:i<len):∃b o x,a=some ⟨b,o,none⟩/\b<w.heap.size/\l[i]? = some x/\∀W:World,Below w.heap.size w W->nH W b (o+i * 7) x:=by
 obtain⟨h1,_,h3⟩:=h
 rcases h3 with h3 | ⟨b,o,rfl,hlt,hc⟩
 ·omega
 ·have hx:l[i]? = some (l[i]'(by omega)):=zze oo
  exact⟨b,o,_,rfl,hlt,hx,fun W hb=>(hc i _ hx).same (hb.block b hlt)⟩
abbrev gN:Type:=gV×Int×ByteArray×Option Addr×Nat×Nat
def tA (x:gN):List Value:=gFg x.1++[.int .i64 x.2.1,.string x.2.2.1,.slice x.2.2.2.1 x.2.2.2.2.1 x.2.2.2.2.2]
def kJ:List gN->List Value
 | []=>[]
 | x::r=>tA x++kJ r
def jC:gV:=⟨⟨#[]⟩,⟨#[]⟩,false,0,0,0,false⟩
def jT (s:gV):gN:=(s,0,⟨#[]⟩,none,0,0)
theorem oW (x:gN):(tA x).length=10:=rfl
theorem gLw (l m:List gN):kJ (l++m)=kJ l++kJ m:=by
 induction l with
 | nil=>rfl
 | cons e r ih=>rw[List.cons_append,kJ,kJ,ih,List.append_assoc]
theorem pE:∀{l:List gN} {i:Nat} {x:gN} {j:Nat} {u:Value},l[i]? = some x->(tA x)[j]? = some u->(kJ l)[i * 10+j]? = some u:=by
 intro l
 induction l with
 | nil=>intro i x j u h;simp at h
 | cons y r ih=>
  intro i x j u h hj
  have hj10:j<10:=by
   have:=(zzc.1 hj).1
   rw[oW] at this;exact this
  cases i with
  | zero=>
   simp only[List.getElem?_cons_zero,Option.some.injEq] at h;subst h;rw[kJ,Nat.zero_mul,Nat.zero_add,List.getElem?_append_left (by rw[oW];exact hj10)];exact hj
  | succ i=>
   rw[List.getElem?_cons_succ] at h;rw[kJ,List.getElem?_append_right (by rw[oW];omega),oW];(have e:(i+1) * 10+j - 10=i * 10+j:=by omega);rw[e];exact ih h hj
theorem hCk:(Tryz.prog.info? 81).map (fun i=>(i.zero,i.size,i.bytes))=some (some (.agg #[.string ⟨#[]⟩,.string ⟨#[]⟩,.bool false,.int .i64 0,.int .i64 0,.int .i64 0,.bool false,.int .i64 0,.string ⟨#[]⟩,.slice none 0 0]),10,120):=by kernel_rfl
theorem gXu (x:gN):∀u∈tA x,u.oneCell' = true:=by
 intro u hu
 simp only[tA,gFg,List.mem_append,List.mem_cons,List.not_mem_nil,or_false] at hu
 rcases hu with (rfl | rfl | rfl | rfl | rfl | rfl | rfl) | (rfl | rfl | rfl)<;>rfl
theorem hDu (w:World)(x:gN)(t:TypeId):∀j u,(tA x)[j]? = some u->(w.alloc (.cells (tA x).toArray t)).cell? ((⟨w.heap.size,0,none⟩:Addr).add j)=some u:=by
 intro j u hj
 have hadd:(⟨w.heap.size,0,none⟩:Addr).add j=⟨w.heap.size,j,none⟩:=by unfold Addr.add;split<;>simp_all
 rw[hadd,cell_of_row _ _ j _ _ _ (World.alloc_heap_new w _),List.getElem?_toArray]
 exact hj
theorem hCf (W:World)(base:Nat)(v:Value)(ks:List gN)(hown:W.ownsRow base 81 10 v ks.length (kJ ks))(x:gN)(hlen:ks.length<=1000000)(hbase:base<=W.heap.size)(b cap:Nat)(hc:∀j u,(tA x)[j]? = some u->W.cell? ((⟨b,0,none⟩:Addr).add j)=some u) :
  ∃g' cap' W1,(Builtin.append_ #[84,84] 84 #[v,.slice (some ⟨b,0,none⟩) 1 cap]).run Tryz.prog W=.ok (.slice (some ⟨g', 0,none⟩) (ks.length+1) cap') W1/\W1.ownsRow base 81 10 (.slice (some ⟨g', 0,none⟩) (ks.length+1) cap') (ks++[x]).length (kJ (ks++[x]))/\Below base W W1:=by
 obtain⟨i0,hi,hz0,hz1,hz2⟩:=info_parts hCk
 obtain⟨v', W1,hrun,r1,r2,_,_⟩:=run_append_own_at (P:=Tryz.prog) W base 84 84 81 i0 _ 10 120 Tryz.underlying84 hi hz0 hz1 hz2 rfl (by decide) v ks.length _ hown ⟨b,0,none⟩ 1 cap (tA x) rfl hc (gXu x) (by unfold maxLen;omega) oo hbase
 have e1:kJ ks++tA x=kJ (ks++[x]):=by rw[gLw];simp[kJ]
 rw[e1] at r1
 obtain⟨g,cap', rfl,_⟩:=gY r1 (Nat.succ_pos _)
 exact⟨g,cap', W1,hrun,by rw[List.length_append];exact r1,(zzd base W).grown r2 hbase (fun k e=>iV hown e)⟩
end Go.Proofs.YtjkebndkeamijaaGreatDoor
