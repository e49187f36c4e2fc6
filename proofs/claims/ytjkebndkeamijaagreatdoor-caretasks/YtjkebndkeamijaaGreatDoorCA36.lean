/-
  PROVED HERE: what the texts DARNewP, DARNewS, DARSpec, DARKs, DARChkP, DARRule say.
-/
import Derived.Test.YtjkebndkeamijaaGreatDoorCA35
set_option maxRecDepth 100000
set_option maxHeartbeats 1000000
namespace Go.Proofs.YtjkebndkeamijaaGreatDoor
open Go.RowKit
theorem gYa {W W1:World}{a:Option Addr}{n:Nat}{zs:List Int}(h:kA W a n zs)(hs:W.heap.size<=W1.heap.size)(hb:n≠0->∀b o,a=some ⟨b,o,none⟩->b<W.heap.size->W1.heap[b]? = W.heap[b]?):kA W1 a n zs:=by
 obtain⟨h1,h2,h3⟩:=h
 refine⟨h1,h2,?_⟩
 by_cases hn:n=0
 ·exact .inl hn
 ·rcases h3 with h3 | ⟨b,o,rfl,hlt,hc⟩
  ·exact .inl h3
  ·exact .inr ⟨b,o,rfl,oo,fun i x hx=>by rw[zzi (hb hn b o rfl hlt)];exact hc i x hx⟩
def gQj (base:Nat)(W:World)(x:mD):Prop:=kA W x.2.1 x.2.2.2.length x.2.2.2/\(x.2.2.2.length≠0->∀a,x.2.1=some a->a.block<base\/∃cs f,W.heap[a.block]? = some (.cells cs 3 f))
structure NmR (base:Nat) (W:World) (v:Value) (xs:List mD):Prop where
 row:W.ownsRow base 63 2 v xs.length (rK xs)
 ok:∀x∈xs,gQj base W x
theorem gQj.below {base:Nat}{W W' : World}{x:mD}(h:gQj base W x)(hB:Below W.heap.size W W'):gQj base W' x:=⟨h.1.below hB,fun h0 a ha=>by
 rcases h.2 h0 a ha with h1 | ⟨cs,f,h1⟩
 ·exact .inl h1
 ·exact .inr ⟨cs,f,(hB.block _ (zza.1 h1).1).trans h1⟩⟩
theorem NmR.below {base:Nat}{W W' : World}{v:Value}{xs:List mD}(h:NmR base W v xs)(hB:Below W.heap.size W W'):NmR base W' v xs :=
 ⟨gF h.row fun g hg=>hB.block g (gC h.row hg).1,fun x hx=>(h.ok x hx).below hB⟩
theorem NmR.put {base:Nat}{W:World}{v:Value}{xs:List mD}(h:NmR base W v xs)(x:mD)(hx:gQj base W x)(hlen:xs.length<=1000000)(hbase:base<=W.heap.size)(b:Nat)(hc:∀j u,(gCs x)[j]? = some u->W.cell? ((⟨b,0,none⟩:Addr).add j)=some u) :
  ∃g' cap' W1,(Builtin.append_ #[39,39] 39 #[v,.slice (some ⟨b,0,none⟩) 1 1]).run Tryz.prog W=.ok (.slice (some ⟨g', 0,none⟩) (xs.length+1) cap') W1/\NmR base W1 (.slice (some ⟨g', 0,none⟩) (xs.length+1) cap') (xs++[x])/\W.grownBy W1 v.ownBlock:=by
 obtain⟨i0,hi,hz0,hz1,hz2⟩:=info_parts gUs
 obtain⟨v', W1,hrun,r1,r2,_,_⟩:=run_append_own_at (P:=Tryz.prog) W base 39 39 63 i0 _ 2 40 Tryz.underlying39 hi hz0 hz1 hz2 rfl (by decide) v xs.length _ h.row ⟨b,0,none⟩ 1 1 (gCs x) rfl hc (fun u hu=>by
  simp only[gCs,List.mem_cons,List.not_mem_nil,or_false] at hu
  rcases hu with rfl | rfl<;>rfl) (by unfold maxLen;omega) oo hbase
 have e1:rK xs++gCs x=rK (xs++[x]):=by rw[gBn];simp[rK]
 rw[e1] at r1
 have apart:∀(b:Nat),b<W.heap.size->(b<base\/∃cs f,W.heap[b]? = some (.cells cs 3 f))->W1.heap[b]? = W.heap[b]? := fun b hlt hy=>by
  refine r2.block b hlt (fun he=>?_);obtain⟨_,cur', hcur'⟩:=gC h.row he.symm;rcases hy with h1 | ⟨cs,f,h1⟩
  ·have:=iV h.row he.symm
   omega
  ·rw[hcur'] at h1
   (injection h1 with hk);(injection hk with _ h2 _);exact gPi h2.symm
 have keep:∀y:mD,gQj base W y->gQj base W1 y:=fun y hy=>by
  refine⟨gYa hy.1 r2.size fun h0 b o hb hlt=>apart b hlt (hy.2 h0 _ hb),fun h0 a ha=>?_⟩;rcases hy.2 h0 a ha with h1 | ⟨cs,f,h1⟩
  ·exact .inl h1
  ·exact .inr ⟨cs,f,(apart _ (zza.1 h1).1 (.inr ⟨cs,f,h1⟩)).trans h1⟩
 exact k58
theorem NmR.groups {base:Nat}{W:World}{g c:Nat}{n:Nat}{xs:List mD}(h:NmR base W (.slice (some ⟨g,0,none⟩) n c) xs)(hn:n=xs.length)(hlen:xs.length<=1000000):iS W (some ⟨g,0,none⟩) n (xs.map iP):=by
 subst hn
 refine⟨by rw[List.length_map],oo,?_⟩
 rcases Nat.eq_zero_or_pos xs.length with h0 | h0
 ·exact .inl h0
 ·obtain⟨g', cap', e,hc⟩:=gY h.row h0
  (injection e with e1);(injection e1 with e1);(injection e1 with e1);subst e1;refine .inr ⟨g,0,rfl,(gC h.row (g:=g) rfl).1,fun i y hy=>?_⟩;rw[List.getElem?_map] at hy;cases hx:xs[i]? with
  | none=>rw[hx] at hy;cases hy
  | some x=>
   rw[hx] at hy;cases hy;obtain⟨f1,f2⟩:=gPn hx;rw[Nat.zero_add];exact⟨x.2.1,x.2.2.2.length,x.2.2.1,hc _ _ f1,hc _ _ f2,(h.ok x (zzj hx)).1⟩
theorem gOk (W:World)(t:Int):kA (W.alloc (.cells #[.int .i64 t] 3)) (some ⟨W.heap.size,0,none⟩) 1 [t]:=kA.one (World.alloc_heap_new W _)
theorem gWy (w:World):NmR w.heap.size ((w.alloc (.cells #[.int .i64 0] 3)).alloc (.cells #[.string lR,.slice (some ⟨w.heap.size,0,none⟩) 1 1] 63)) (.slice (some ⟨w.heap.size+1,0,none⟩) 1 1) [(lR,some ⟨w.heap.size,0,none⟩,1,[0])]:=by
 refine⟨(gDl w).row,fun x hx=>?_⟩
 rw[List.mem_singleton] at hx
 subst hx
 have hB:Below (w.alloc (.cells #[.int .i64 0] 3)).heap.size (w.alloc (.cells #[.int .i64 0] 3)) ((w.alloc (.cells #[.int .i64 0] 3)).alloc (.cells #[.string lR,.slice (some ⟨w.heap.size,0,none⟩) 1 1] 63)):=(zzd _ _).alloc (zzb _) _
 refine⟨(gOk w 0).below hB,fun _ a ha=>?_⟩
 cases ha
 exact .inr ⟨_,_,(hB.block w.heap.size (by rw[World.size_alloc];omega)).trans (World.alloc_heap_new w _)⟩
theorem hAz {w wr:World}{v:Value}{xs:List mD}{i:Nat}(h:NmR w.heap.size wr v xs)(hlen:xs.length<=100)(hB:Below w.heap.size w wr)(nm:ByteArray) :
  ∃g' cap' W1,(Builtin.append_ #[39,39] 39 #[v,.slice (some ⟨wr.heap.size+1,0,none⟩) 1 1]).run Tryz.prog ((wr.alloc (.cells #[.int .i64 ((i:Int)+1)] 3)).alloc (.cells #[.string nm,.slice (some ⟨wr.heap.size,0,none⟩) 1 1] 63))=.ok (.slice (some ⟨g', 0,none⟩) (xs.length+1) cap') W1/\NmR w.heap.size W1 (.slice (some ⟨g', 0,none⟩) (xs.length+1) cap') (xs++[(nm,some ⟨wr.heap.size,0,none⟩,1,[(i:Int)+1])])/\Below w.heap.size w W1:=by
 obtain⟨W2,hW2⟩:∃W2,W2=wr.alloc (.cells #[.int .i64 ((i:Int)+1)] 3):=⟨_,rfl⟩
 have s2:W2.heap.size=wr.heap.size+1:=by rw[hW2,World.size_alloc]
 have hB2:Below wr.heap.size wr W2:=by rw[hW2];exact(zzd _ wr).alloc (zzb _) _
 have hi2:kA W2 (some ⟨wr.heap.size,0,none⟩) 1 [(i:Int)+1]:=by rw[hW2];exact gOk wr _
 have m2:W2.heap[wr.heap.size]? = some (.cells #[.int .i64 ((i:Int)+1)] 3 (0,0)):=by rw[hW2];exact World.alloc_heap_new wr _
 rw[<-hW2,<-s2]
 clear hW2
 obtain⟨W3,hW3⟩:∃W3,W3=W2.alloc (.cells #[.string nm,.slice (some ⟨wr.heap.size,0,none⟩) 1 1] 63):=⟨_,rfl⟩
 have hB23:Below W2.heap.size W2 W3:=by rw[hW3];exact(zzd _ _).alloc (zzb _) _
 have hB3:Below wr.heap.size wr W3:=hB2.trans (hB23.mono hB2.size)
 have hc:=yH W2 (.string nm) (.slice (some ⟨wr.heap.size,0,none⟩) 1 1) 63
 rw[<-hW3] at hc ⊢
 have hBw:Below w.heap.size w W3:=hB.trans (hB3.mono hB.size)
 obtain⟨g', cap', Z,h1,h2,h3⟩:=(h.below hB3).put (nm,some ⟨wr.heap.size,0,none⟩,1,[(i:Int)+1]) ⟨hi2.below hB23,fun _ a ha=>by cases ha;exact .inr ⟨_,_,(hB23.block wr.heap.size oo).trans m2⟩⟩ oo hBw.size W2.heap.size hc
 exact⟨g', cap', Z,h1,h2,hBw.grown h3 hBw.size (fun k e=>iV h.row e)⟩
theorem gWx {w wr:World}{v:Value}{xs:List mD}{x:Grp}{ta:Option Addr}{tl tc:Nat}(h:NmR w.heap.size wr v xs)(hlen:xs.length<=100)(hB:Below w.heap.size w wr)(hx:kA w ta tl x.2) :
  ∃g' cap' W1,(Builtin.append_ #[39,39] 39 #[v,.slice (some ⟨wr.heap.size,0,none⟩) 1 1]).run Tryz.prog (wr.alloc (.cells #[.string x.1,.slice ta tl tc] 63))=.ok (.slice (some ⟨g', 0,none⟩) (xs.length+1) cap') W1/\NmR w.heap.size W1 (.slice (some ⟨g', 0,none⟩) (xs.length+1) cap') (xs++[(x.1,ta,tc,x.2)])/\Below w.heap.size w W1:=by
 have hB3:Below wr.heap.size wr (wr.alloc (.cells #[.string x.1,.slice ta tl tc] 63)):=(zzd _ _).alloc (zzb _) _
 have hBw:Below w.heap.size w (wr.alloc (.cells #[.string x.1,.slice ta tl tc] 63)):=hB.trans (hB3.mono hB.size)
 have hxl:x.2.length=tl:=hx.1
 have ht:gQj w.heap.size (wr.alloc (.cells #[.string x.1,.slice ta tl tc] 63)) (x.1,ta,tc,x.2):=by
  refine⟨?_,fun h0 a ha=>?_⟩
  ·show kA _ ta x.2.length x.2
   rw[hxl];exact hx.below hBw
  ·have h0' : tl≠0:=by rw[<-hxl];exact h0
   have ha' : ta=some a:=ha;rcases hx.2.2 with h1 | ⟨b,o,h1,h2,_⟩
   ·exact absurd h1 h0'
   ·rw[h1] at ha'
    cases ha';exact .inl h2
 have hc:=yH wr (.string x.1) (.slice ta tl tc) 63
 obtain⟨g', cap', Z,h1,h2,h3⟩:=(h.below hB3).put (x.1,ta,tc,x.2) ht oo hBw.size wr.heap.size (by unfold gCs;dsimp only;rw[hxl];exact hc)
 exact⟨g', cap', Z,h1,h2,hBw.grown h3 hBw.size (fun k e=>iV h.row e)⟩
def NA (B Eb:Nat)(ev:Value)(b:Nat):Prop:=b≠B/\b≠Eb/\ev.ownBlock≠some b
def hDy (r:Raw)(lv ev gv:Value):Array Value:=#[.int .i64 r.1,.string r.2.1,.slice r.2.2.1 r.2.2.2.1 r.2.2.2.2,lv,ev,gv]
def uH (r:Raw):Array Value:=#[.int .i64 r.1,.string r.2.1,.slice r.2.2.1 r.2.2.2.1 r.2.2.2.2]
structure NwI (W1:World) (B Eb:Nat) (tr:Raw) (Tw:DataW Unit) (lv gv:Value) (es:List ByteArray) (wr:World) (j:Nat) (ev:Value) (rs:List Raw) (er:Raw):Prop where
 bel:Below W1.heap.size W1 wr
 B0:B=W1.heap.size
 Eb0:W1.heap.size<Eb
 blk:wr.heap[B]? = some (.cells (hDy tr lv ev gv) 71 (0,0))
 eb:wr.heap[Eb]? = some (.cells (uH er) 69 (0,0))
 own:wr.ownsRow W1.heap.size 69 3 ev j (mR rs)
 len:rs.length=j
 apart:ev.ownBlock≠some Eb
 whole:ExA (NA B Eb ev) wr 200 Tw (jI tr)
 trees:∀(i:Nat) (s:ByteArray) (r:Raw),es[i]? = some s->rs[i]? = some r->ExA (NA B Eb ev) wr 200 (gO s) (jI r)
theorem NwI.ownB {W1:World}{B Eb:Nat}{tr:Raw}{Tw:DataW Unit}{lv gv:Value}{es:List ByteArray}{wr:World}{j:Nat}{ev:Value}{rs:List Raw}{er:Raw}(h:NwI W1 B Eb tr Tw lv gv es wr j ev rs er):ev.ownBlock≠some B:=fun e=>by
 obtain⟨_,cur,hcur⟩:=gC h.own e
 rw[h.blk] at hcur
 injection hcur with hk
 injection hk with _ h2 _
 exact absurd h2 (by decide)
theorem NwI.below {W1:World}{B Eb:Nat}{tr:Raw}{Tw:DataW Unit}{lv gv:Value}{es:List ByteArray}{wr:World}{j:Nat}{ev:Value}{rs:List Raw}{er:Raw}(h:NwI W1 B Eb tr Tw lv gv es wr j ev rs er){X:World}(hX:Below wr.heap.size wr X):NwI W1 B Eb tr Tw lv gv es X j ev rs er :=
 ⟨h.bel.trans (hX.mono h.bel.size),h.B0,h.Eb0,(hX.block _ (zza.1 h.blk).1).trans h.blk,(hX.block _ (zza.1 h.eb).1).trans h.eb,gF h.own fun g hg=>hX.block g (gC h.own hg).1,h.len,h.apart,ExA.kept hX.size (fun b hb hA=>⟨hA,hX.block b hb⟩) _ _ _ h.whole,fun i s r hs hr=>ExA.kept hX.size (fun b hb hA=>⟨hA,hX.block b hb⟩) _ _ _ (h.trees i s r hs hr)⟩
theorem NwI.put {W1:World}{B Eb:Nat}{tr:Raw}{Tw:DataW Unit}{lv gv:Value}{es:List ByteArray}{wr:World}{j:Nat}{ev:Value}{rs:List Raw}{er:Raw}(h:NwI W1 B Eb tr Tw lv gv es wr j ev rs er)(r:Raw):NwI W1 B Eb tr Tw lv gv es (wr.setRow Eb (uH r)) j ev rs r:=by
 have hne:B≠Eb:=by have:=h.B0;have:=h.Eb0;omega
 have oth:∀k,k≠Eb->(wr.setRow Eb (uH r)).heap[k]? = wr.heap[k]? := fun k hk=>setRow_other _ _ _ _ (fun e=>hk e)
 refine⟨below_setRow h.bel (Nat.le_of_lt h.Eb0) _,h.B0,h.Eb0,(oth B hne).trans h.blk,setRow_heap _ _ _ _ _ _ h.eb,gF h.own fun g hg=>oth g (fun e=>h.apart (by rw[hg,e])),h.len,h.apart,ExA.kept (by rw[size_setRow];exact zzb _) (fun b hb hA=>⟨hA,oth b hA.2.1⟩) _ _ _ h.whole,fun i s q hs hr=>ExA.kept (by rw[size_setRow];exact zzb _) (fun b hb hA=>⟨hA,oth b hA.2.1⟩) _ _ _ (h.trees i s q hs hr)⟩
theorem gVv (xs:List Value)(p q r a b c:Value)(n:Nat)(hn:xs.length=n):(((xs++[p,q,r]).set n a).set (n+1) b).set (n+2) c=xs++[a,b,c]:=by
 subst hn
 induction xs with
 | nil=>rfl
 | cons x s ih=>simp only[List.cons_append,List.length_cons,Nat.add_right_comm _ 1,List.set_cons_succ,ih]
theorem hEz:(Tryz.prog.info? 69).map (fun i=>(i.zero,i.size,i.bytes))=some (some (.agg #[.int .i64 0,.string ⟨#[]⟩,.slice none 0 0]),3,48):=by kernel_rfl
theorem gMx (w:World)(x0 x1 x2:Value)(t:TypeId):∀j u,[x0,x1,x2][j]? = some u->(w.alloc (.cells #[x0,x1,x2] t)).cell? ((⟨w.heap.size,0,none⟩:Addr).add j)=some u:=by
 exact k62
structure NwS (W1:World) (B Eb:Nat) (tr:Raw) (lv gv v0:Value) (Y2:World) (j g' c' : Nat) (Y:World) (L:List Value) (ev:Value):Prop where
 own:Y.ownsRow W1.heap.size 69 3 (.slice (some ⟨g', 0,none⟩) (j+1) c') (j+1) L
 blk:Y.heap[B]? = some (.cells (hDy tr lv ev gv) 71 (0,0))
 oth:∀k,k≠B->k≠g' -> Y.heap[k]? = Y2.heap[k]?
 size:Y.heap.size=Y2.heap.size
 os:Y.os=Y2.os
 tape:Y.tape=Y2.tape
 output:Y.output=Y2.output
theorem NwS.apart {W1:World}{B Eb:Nat}{tr:Raw}{lv gv v0:Value}{Y2:World}{j g' c' : Nat}{Y:World}{L:List Value}{ev:Value}(h:NwS W1 B Eb tr lv gv v0 Y2 j g' c' Y L ev):g' ≠ B:=fun e=>by
 obtain⟨_,cur,hcur⟩:=gC h.own (g:=g') rfl
 rw[e,h.blk] at hcur
 injection hcur with hk
 injection hk with _ h2 _
 exact absurd h2 (by decide)
theorem NwS.elem {W1:World}{B Eb:Nat}{tr:Raw}{lv gv v0:Value}{Y2:World}{j g' c' : Nat}{Y:World}{L:List Value}{ev:Value}(h:NwS W1 B Eb tr lv gv v0 Y2 j g' c' Y L ev)(q:Nat)(hq:q<(j+1) * 3)(u:Value):(∃x,Y.cell? ⟨g', q,none⟩=some x)/\Y.frozen? ⟨g', q,none⟩=false/\NwS W1 B Eb tr lv gv v0 Y2 j g' c' (Y.setCell ⟨g', q,none⟩ u) (L.set q u) ev:=by
 have hne:=h.apart
 obtain⟨_,cur,hcur⟩:=gC h.own (g:=g') rfl
 obtain⟨g2,c2,e,hc⟩:=gY h.own oo
 injection e with e1
 injection e1 with e1
 injection e1 with e1
 subst e1
 refine⟨⟨_,hc q _ (zze (by rw[h.own.1];exact hq))⟩,by simp[World.frozen?,hcur],gAp h.own q u,?_,fun k h1 h2=>?_,?_,h.os,h.tape,h.output⟩
 ·exact(zzh Y _ u B (fun e=>hne e.symm)).trans h.blk
 ·exact(zzh Y _ u k (fun e=>h2 e)).trans (h.oth k h1 h2)
 ·exact(by simp:(Y.setCell ⟨g', q,none⟩ u).heap.size=Y.heap.size).trans h.size
theorem NwS.slot {W1:World}{B Eb:Nat}{tr:Raw}{lv gv v0:Value}{Y2:World}{j g' c' : Nat}{Y:World}{L:List Value}{ev:Value}(h:NwS W1 B Eb tr lv gv v0 Y2 j g' c' Y L ev)(u:Value):Y.cell? ⟨B,4,none⟩=some ev/\Y.frozen? ⟨B,4,none⟩=false/\NwS W1 B Eb tr lv gv v0 Y2 j g' c' (Y.setCell ⟨B,4,none⟩ u) L u:=by
 have hne:=h.apart
 refine⟨cell_of_row Y B 4 _ _ _ h.blk,by simp[World.frozen?,h.blk],gF h.own fun g hg=>?_,?_,fun k h1 h2=>?_,?_,h.os,h.tape,h.output⟩
 ·have:g=g' := by cases hg;rfl
  subst this;exact zzh Y _ u g (fun e=>hne e)
 ·have:=heap_setCell_same Y B 4 _ _ u h.blk
  exact this
 ·exact(zzh Y _ u k (fun e=>h1 e)).trans (h.oth k h1 h2)
 ·exact(by simp:(Y.setCell ⟨B,4,none⟩ u).heap.size=Y.heap.size).trans h.size
theorem NwS.three {W1:World}{B Eb:Nat}{tr:Raw}{lv gv v0:Value}{Y2:World}{j g' c' : Nat}{Y:World}{L:List Value}{ev:Value}(h:NwS W1 B Eb tr lv gv v0 Y2 j g' c' Y L ev)(a b c:Value):((∃x,Y.cell? ⟨g', j * 3,none⟩=some x)/\Y.frozen? ⟨g', j * 3,none⟩=false)/\((∃x,(Y.setCell ⟨g', j * 3,none⟩ a).cell? ⟨g', j * 3+1,none⟩=some x)/\(Y.setCell ⟨g', j * 3,none⟩ a).frozen? ⟨g', j * 3+1,none⟩=false)/\((∃x,((Y.setCell ⟨g', j * 3,none⟩ a).setCell ⟨g', j * 3+1,none⟩ b).cell? ⟨g', j * 3+2,none⟩=some x)/\((Y.setCell ⟨g', j * 3,none⟩ a).setCell ⟨g', j * 3+1,none⟩ b).frozen? ⟨g', j * 3+2,none⟩=false)/\NwS W1 B Eb tr lv gv v0 Y2 j g' c' (((Y.setCell ⟨g', j * 3,none⟩ a).setCell ⟨g', j * 3+1,none⟩ b).setCell ⟨g', j * 3+2,none⟩ c) (((L.set (j * 3) a).set (j * 3+1) b).set (j * 3+2) c) ev:=by
 obtain⟨e0,f0,s0⟩:=h.elem (j * 3) oo a
 obtain⟨e1,f1,s1⟩:=s0.elem (j * 3+1) oo b
 obtain⟨e2,f2,s2⟩:=s1.elem (j * 3+2) oo c
 exact⟨⟨e0,f0⟩,⟨e1,f1⟩,⟨e2,f2⟩,s2⟩
theorem NwI.grow {W1:World}{B Eb:Nat}{tr:Raw}{Tw:DataW Unit}{lv gv:Value}{es:List ByteArray}{wr:World}{j:Nat}{ev:Value}{rs:List Raw}{er:Raw}(h:NwI W1 B Eb tr Tw lv gv es wr j ev rs er)(hj:j<=100) :
  ∃g' c' Y2,(Builtin.append_ #[67,67] 67 #[ev,.slice (some ⟨wr.heap.size,0,none⟩) 1 1]).run Tryz.prog (wr.alloc (.cells #[.int .i64 0,.string ⟨#[]⟩,.slice none 0 0] 69))=.ok (.slice (some ⟨g', 0,none⟩) (j+1) c') Y2 ∧
   NwS W1 B Eb tr lv gv ev Y2 j g' c' Y2 (mR rs++[.int .i64 0,.string ⟨#[]⟩,.slice none 0 0]) ev ∧
   (∀(Z:World) (s:ByteArray),es[j]? = some s->(∃lo,lo<=wr.heap.size/\Eb<lo/\(∀g,ev.ownBlock=some g->g<lo)/\ExA (fun b=>lo<=b) wr 200 (gO s) (jI er))->NwS W1 B Eb tr lv gv ev Y2 j g' c' Z (mR (rs++[er])) (.slice (some ⟨g', 0,none⟩) (j+1) c')->NwI W1 B Eb tr Tw lv gv es Z (j+1) (.slice (some ⟨g', 0,none⟩) (j+1) c') (rs++[er]) er) ∧
   (∀(Z:World) (L:List Value) (u:Value),NwS W1 B Eb tr lv gv ev Y2 j g' c' Z L u->Z.heap[Eb]? = some (.cells (uH er) 69 (0,0))):=by
 have hBa:Below wr.heap.size wr (wr.alloc (.cells #[.int .i64 0,.string ⟨#[]⟩,.slice none 0 0] 69)):=(zzd _ _).alloc (zzb _) _
 have hI:=h.below hBa
 obtain⟨i0,hi,hz0,hz1,hz2⟩:=info_parts hEz
 obtain⟨v', Y2,hrun,r1,r2,_,r4⟩:=run_append_own_at (P:=Tryz.prog) (wr.alloc (.cells #[.int .i64 0,.string ⟨#[]⟩,.slice none 0 0] 69)) W1.heap.size 67 67 69 i0 _ 3 48 Tryz.underlying67 hi hz0 hz1 hz2 rfl (by decide) ev j _ hI.own ⟨wr.heap.size,0,none⟩ 1 1 [.int .i64 0,.string ⟨#[]⟩,.slice none 0 0] rfl (gMx wr _ _ _ _) (fun u hu=>by
  simp only[List.mem_cons,List.not_mem_nil,or_false] at hu
  rcases hu with rfl | rfl | rfl<;>rfl) (by unfold maxLen;omega) oo hI.bel.size
 obtain⟨g', c', rfl,_⟩:=gY r1 (Nat.succ_pos _)
 have hgB:ev.ownBlock≠some B:=hI.ownB
 have hblk:Y2.heap[B]? = some (.cells (hDy tr lv ev gv) 71 (0,0)):=(r2.block B (zza.1 hI.blk).1 (fun e=>hgB e.symm)).trans hI.blk
 have r4' : some g' = ev.ownBlock\/some g' = some (wr.alloc (.cells #[.int .i64 0,.string ⟨#[]⟩,.slice none 0 0] 69)).heap.size:=r4
 have hne:B≠Eb:=by have:=h.B0;have:=h.Eb0;omega
 have hgE:g' ≠ Eb:=fun e=>by
  rcases r4' with h1 | h1
  ·exact h.apart (by rw[<-h1,e])
  ·have h2:g' = (wr.alloc (.cells #[.int .i64 0,.string ⟨#[]⟩,.slice none 0 0] 69)).heap.size:=zzo h1
   have:=(zza.1 hI.eb).1
   omega
 have heb:∀(Z:World) (L:List Value) (u:Value),NwS W1 B Eb tr lv gv ev Y2 j g' c' Z L u->Z.heap[Eb]? = some (.cells (uH er) 69 (0,0)):=fun Z L u hZ=>(hZ.oth Eb (fun e=>hne e.symm) (fun e=>hgE e.symm)).trans ((r2.block Eb (zza.1 hI.eb).1 (fun e=>h.apart e.symm)).trans hI.eb)
 refine⟨g', c', Y2,hrun,⟨r1,hblk,fun _ _ _=>rfl,rfl,rfl,rfl,rfl⟩,fun Z s hs hex hZ=>?_,heb⟩
 obtain⟨lo,lo1,lo2,lo3,hex⟩:=hex
 have hsz:wr.heap.size<=Y2.heap.size:=Nat.le_trans hBa.size r2.size
 have hbY:Below W1.heap.size W1 Y2:=hI.bel.grown r2 hI.bel.size (fun k e=>iV hI.own e)
 have hg1:W1.heap.size<=g' := iV hZ.own rfl
 -- what is none of New's own blocks is as it was
 have same:∀b,b<wr.heap.size->NA B Eb ev b->b≠g' /\ Z.heap[b]? = wr.heap[b]? := fun b hb hA=>by
  have h2:b≠g' := fun e=>by
   rcases r4' with h1 | h1
   ·exact hA.2.2 (by rw[<-h1,e])
   ·have h2:g' = (wr.alloc (.cells #[.int .i64 0,.string ⟨#[]⟩,.slice none 0 0] 69)).heap.size:=zzo h1
    rw[World.size_alloc] at h2;omega
  refine⟨h2,(hZ.oth b hA.1 h2).trans ((r2.block b (zzl hb hBa.size) (fun e=>hA.2.2 e.symm)).trans (hBa.block b hb))⟩
 have keep:∀(t:DataW Unit) (v:Value),ExA (NA B Eb ev) wr 200 t v->ExA (NA B Eb (.slice (some ⟨g', 0,none⟩) (j+1) c')) Z 200 t v:=fun t v hx=>ExA.kept (by rw[hZ.size];exact hsz) (fun b hb hA=>⟨⟨hA.1,hA.2.1,fun e=>(same b hb hA).1 (zzo e).symm⟩,(same b hb hA).2⟩) _ _ _ hx
 have hlen:=h.len
 refine⟨⟨hZ.os.trans hbY.os,hZ.tape.trans hbY.tape,hZ.output.trans hbY.output,by rw[hZ.size];exact hbY.size,fun k hk=>(hZ.oth k (by have:=h.B0;omega) oo).trans (hbY.block k hk)⟩,h.B0,h.Eb0,hZ.blk,?_,hZ.own,by rw[List.length_append,hlen];rfl,fun e=>hgE (zzo e),keep _ _ h.whole,fun i s' r hs' hr=>?_⟩
 ·exact heb Z _ _ hZ
 ·rcases Nat.lt_or_ge i j with h1 | h1
  ·rw[List.getElem?_append_left oo] at hr
   exact keep _ _ (h.trees i s' r hs' hr)
  ·have hij:i=j:=by
    have:=(zzc.1 hr).1
    rw[List.length_append,List.length_singleton] at this;omega
   subst hij;rw[List.getElem?_append_right oo,hlen,Nat.sub_self] at hr;cases hr;rw[hs] at hs';cases hs';refine keep _ _ (ExA.mono (fun b hb hA=>⟨?_,?_,fun e=>?_⟩) hex)
   ·have:=h.B0;have:=h.Eb0;omega
   ·omega
   ·have:=lo3 b e;omega
def NwF (W1 X2:World)(tr:Raw)(Tw:DataW Unit)(lv gv:Value)(es:List ByteArray):Prop :=
 ((X2.alloc (.cells (uH tr) 69)).cell? ⟨X2.heap.size,0,none⟩=some (.int .i64 tr.1)/\(X2.alloc (.cells (uH tr) 69)).cell? ⟨X2.heap.size,1,none⟩=some (.string tr.2.1)/\(X2.alloc (.cells (uH tr) 69)).cell? ⟨X2.heap.size,2,none⟩=some (.slice tr.2.2.1 tr.2.2.2.1 tr.2.2.2.2)) ∧
 (∃u,(X2.alloc (.cells (uH tr) 69)).cell? ⟨W1.heap.size,0,none⟩=some u/\(X2.alloc (.cells (uH tr) 69)).frozen? ⟨W1.heap.size,0,none⟩=false) ∧
 (∃u,((X2.alloc (.cells (uH tr) 69)).setCell ⟨W1.heap.size,0,none⟩ (.int .i64 tr.1)).cell? ⟨W1.heap.size,1,none⟩=some u/\((X2.alloc (.cells (uH tr) 69)).setCell ⟨W1.heap.size,0,none⟩ (.int .i64 tr.1)).frozen? ⟨W1.heap.size,1,none⟩=false) ∧
 (∃u,(((X2.alloc (.cells (uH tr) 69)).setCell ⟨W1.heap.size,0,none⟩ (.int .i64 tr.1)).setCell ⟨W1.heap.size,1,none⟩ (.string tr.2.1)).cell? ⟨W1.heap.size,2,none⟩=some u/\(((X2.alloc (.cells (uH tr) 69)).setCell ⟨W1.heap.size,0,none⟩ (.int .i64 tr.1)).setCell ⟨W1.heap.size,1,none⟩ (.string tr.2.1)).frozen? ⟨W1.heap.size,2,none⟩=false) ∧
 NwI W1 W1.heap.size X2.heap.size tr Tw lv gv es ((((X2.alloc (.cells (uH tr) 69)).setCell ⟨W1.heap.size,0,none⟩ (.int .i64 tr.1)).setCell ⟨W1.heap.size,1,none⟩ (.string tr.2.1)).setCell ⟨W1.heap.size,2,none⟩ (.slice tr.2.2.1 tr.2.2.2.1 tr.2.2.2.2)) 0 (.slice none 0 0) [] tr
theorem hAy {W1 X2:World}{tr:Raw}{Tw:DataW Unit}{lv gv:Value}{es:List ByteArray}(hB2:Below (W1.alloc (.cells #[.int .i64 0,.string ⟨#[]⟩,.slice none 0 0,lv,.slice none 0 0,gv] 71)).heap.size (W1.alloc (.cells #[.int .i64 0,.string ⟨#[]⟩,.slice none 0 0,lv,.slice none 0 0,gv] 71)) X2)(hT:ExA (fun b=>(W1.alloc (.cells #[.int .i64 0,.string ⟨#[]⟩,.slice none 0 0,lv,.slice none 0 0,gv] 71)).heap.size<=b) X2 200 Tw (jI tr)):NwF W1 X2 tr Tw lv gv es:=by
 obtain⟨X1,hX1⟩:∃X1,X1=W1.alloc (.cells #[.int .i64 0,.string ⟨#[]⟩,.slice none 0 0,lv,.slice none 0 0,gv] 71):=⟨_,rfl⟩
 have s1:X1.heap.size=W1.heap.size+1:=by rw[hX1,World.size_alloc]
 have hB1:Below W1.heap.size W1 X1:=by rw[hX1];exact(zzd _ _).alloc (zzb _) _
 have m1:X1.heap[W1.heap.size]? = some (.cells #[.int .i64 0,.string ⟨#[]⟩,.slice none 0 0,lv,.slice none 0 0,gv] 71 (0,0)):=by rw[hX1];exact World.alloc_heap_new W1 _
 rw[<-hX1] at hB2 hT
 clear hX1
 obtain⟨X3,hX3⟩:∃X3,X3=X2.alloc (.cells (uH tr) 69):=⟨_,rfl⟩
 have hB23:Below X2.heap.size X2 X3:=by rw[hX3];exact(zzd _ _).alloc (zzb _) _
 have m3:X3.heap[X2.heap.size]? = some (.cells (uH tr) 69 (0,0)):=by rw[hX3];exact World.alloc_heap_new X2 _
 have hsz:=hB2.size
 have hsz2:=hB23.size
 have b3:X3.heap[W1.heap.size]? = some (.cells #[.int .i64 0,.string ⟨#[]⟩,.slice none 0 0,lv,.slice none 0 0,gv] 71 (0,0)):=(hB23.block _ oo).trans ((hB2.block _ oo).trans m1)
 unfold NwF
 rw[<-hX3]
 have hB3:Below W1.heap.size W1 X3:=hB1.trans ((hB2.trans (hB23.mono hB2.size)).mono hB1.size)
 have hT3:ExA (fun b=>X1.heap.size<=b/\b<X2.heap.size) X3 200 Tw (jI tr):=ExA.kept hB23.size (fun b hb hA=>⟨⟨hA,hb⟩,hB23.block b hb⟩) _ _ _ hT
 have hc3:=fun j=>cell_of_row X3 X2.heap.size j _ _ _ m3
 have b4:=heap_setCell_same X3 W1.heap.size 0 _ _ (.int .i64 tr.1) b3
 have b5:=heap_setCell_same _ W1.heap.size 1 _ _ (.string tr.2.1) b4
 have b6:=heap_setCell_same _ W1.heap.size 2 _ _ (.slice tr.2.2.1 tr.2.2.2.1 tr.2.2.2.2) b5
 have oth:∀k,k≠W1.heap.size->(((X3.setCell ⟨W1.heap.size,0,none⟩ (.int .i64 tr.1)).setCell ⟨W1.heap.size,1,none⟩ (.string tr.2.1)).setCell ⟨W1.heap.size,2,none⟩ (.slice tr.2.2.1 tr.2.2.2.1 tr.2.2.2.2)).heap[k]? = X3.heap[k]? := fun k hk=>by
  rw[zzh _ _ _ k (fun e=>hk e),zzh _ _ _ k (fun e=>hk e),zzh _ _ _ k (fun e=>hk e)]
 have osz:(((X3.setCell ⟨W1.heap.size,0,none⟩ (.int .i64 tr.1)).setCell ⟨W1.heap.size,1,none⟩ (.string tr.2.1)).setCell ⟨W1.heap.size,2,none⟩ (.slice tr.2.2.1 tr.2.2.2.1 tr.2.2.2.2)).heap.size=X3.heap.size:=by simp
 refine⟨⟨hc3 0,hc3 1,hc3 2⟩,⟨_,cell_of_row X3 _ 0 _ _ _ b3,by simp[World.frozen?,b3]⟩,⟨_,cell_of_row _ _ 1 _ _ _ b4,by simp only[World.frozen?,b4];rfl⟩,⟨_,cell_of_row _ _ 2 _ _ _ b5,by simp only[World.frozen?,b5];rfl⟩,⟨hB3.os,hB3.tape,hB3.output,by rw[osz];exact hB3.size,fun k hk=>(oth k oo).trans (hB3.block k hk)⟩,rfl,oo,b6,(oth _ oo).trans m3,World.ownsRow_nil ..,rfl,(fun e=>by cases e),?_,(fun i s r _ hr=>by simp at hr)⟩
 exact ExA.kept (by rw[osz];exact zzb _) (fun b hb hA=>⟨⟨oo,oo,(fun e=>by cases e)⟩,oth b oo⟩) _ _ _ hT3
def gAg (w:World)(B:Nat)(whole:ByteArray)(a:Option Addr)(len cap:Nat)(l:List gV)(gs:List Grp):Prop :=
 ∃(tr:Raw) (ea:Option Addr) (ec ng nc:Nat),w.heap[B]? = some (.cells (hDy tr (.slice a len cap) (.slice ea len ec) (.slice (some ⟨ng,0,none⟩) (gJ l gs).length nc)) 71 (0,0)) ∧
  Ex w 200 (gO whole) (jI tr)/\rN w a len l/\iS w (some ⟨ng,0,none⟩) (gJ l gs).length (gJ l gs) ∧
  (∀(i:Nat) (x:gV),l[i]? = some x->∃(g:Nat) (r:Raw),ea=some ⟨g,0,none⟩/\g<w.heap.size/\w.cell? ⟨g,i * 3,none⟩=some (.int .i64 r.1)/\w.cell? ⟨g,i * 3+1,none⟩=some (.string r.2.1)/\w.cell? ⟨g,i * 3+2,none⟩=some (.slice r.2.2.1 r.2.2.2.1 r.2.2.2.2)/\Ex w 200 (gO x.expr) (jI r)) ∧
  kL (whole::l.map (·.expr)) (gJ l gs)=0/\len<=15
theorem gAg.below {w w' : World}{B:Nat}{whole:ByteArray}{a:Option Addr}{len cap:Nat}{l:List gV}{gs:List Grp}(h:gAg w B whole a len cap l gs)(hB:Below w.heap.size w w'):gAg w' B whole a len cap l gs:=by
 obtain⟨tr,ea,ec,ng,nc,h1,h2,h3,h4,h5,h6⟩:=h
 refine⟨tr,ea,ec,ng,nc,(hB.block _ (zza.1 h1).1).trans h1,Ex.below hB _ _ _ h2,h3.below hB,h4.below hB,fun i x hx=>?_,h6⟩
 obtain⟨g,r,e,hg,c0,c1,c2,hE⟩:=h5 i x hx
 have hc:∀q,w'.cell? ⟨g,q,none⟩=w.cell? ⟨g,q,none⟩:=fun q=>zzi (hB.block g hg)
 exact⟨g,r,e,zzl hg hB.size,by rw[hc];exact c0,by rw[hc];exact c1,by rw[hc];exact c2,Ex.below hB _ _ _ hE⟩
theorem NwI.made {W1:World}{B Eb:Nat}{tr:Raw}{a:Option Addr}{len cap:Nat}{ng nc:Nat}{whole:ByteArray}{l:List gV}{gs:List Grp}{wr:World}{ev:Value}{rs:List Raw}{er:Raw}(h:NwI W1 B Eb tr (gO whole) (.slice a len cap) (.slice (some ⟨ng,0,none⟩) (gJ l gs).length nc) (l.map (·.expr)) wr len ev rs er)(hl:rN W1 a len l)(hG:iS W1 (some ⟨ng,0,none⟩) (gJ l gs).length (gJ l gs))(h0:kL (whole::l.map (·.expr)) (gJ l gs)=0)(h15:len<=15):gAg wr B whole a len cap l gs:=by
 obtain⟨ea,ec,rfl⟩:=nO h.own
 refine⟨tr,ea,ec,ng,nc,h.blk,ExA.ex _ _ _ h.whole,hl.below h.bel,hG.below h.bel,fun i x hx=>?_,h0,h15⟩
 have hil:i<len:=by have:=(zzc.1 hx).1;have:=hl.1;omega
 have hrl:=h.len
 obtain⟨r,hr⟩:∃r,rs[i]? = some r:=⟨_,zze oo⟩
 obtain⟨g,c', e,hc⟩:=gY h.own oo
 injection e with e1
 obtain⟨c0,c1,c2⟩:=gAr rs i r hr
 exact⟨g,r,e1,(gC h.own (g:=g) (by rw[e1];rfl)).1,hc _ _ c0,hc _ _ c1,hc _ _ c2,ExA.ex _ _ _ (h.trees i x.expr r (by rw[List.getElem?_map,hx];rfl) hr)⟩
def tT (l:List gV)(t:Int):gV:=if 1<=t/\t<=l.length then (l[(t - 1).toNat]?).getD jC else jC
theorem k18{p:Prop}(h:p:=by
  rw[if_neg oo,show decide (1<=t/\t<=(len:Int))=false by simp;omega];unfold gIm jC;dsimp only at *;have HV:=Hid.mk_ hV;clear h1 h3 hm hl3 hll hV hBV;go_enter Tryz.func19,Tryz.ntmps19;(go_wp2_with (first | (rw[<-HV.out];refine wpList_store_row rfl 34 _ _ rfl w.heap.size #[.string ⟨#[]⟩,.string ⟨#[]⟩,.bool false,.int .i64 0,.int .i64 0,.int .i64 0,.bool false] rfl rfl 34 _ HZ.out wE rfl (hAw _ _ _ _ _ _ _) ?_) | fail));refine bodyPost_ret (gU rfl _ _ w.heap.size 34 #[.string ⟨#[]⟩,.string ⟨#[]⟩,.bool false,.int .i64 0,.int .i64 0,.int .i64 0,.bool false] (0,0) _ rfl (setRow_heap _ _ _ _ _ _ HZ.out) Tryz.underlying34 rfl wE) rfl ?_;exact⟨rfl,HF.out _⟩
  ):p:=h
theorem gNh {B:Nat}{whole:ByteArray}{a:Option Addr}{len cap:Nat}{l:List gV}{gs:List Grp}(w:World)(h:gAg w B whole a len cap l gs)(t:Int) :
  Calls Tryz.prog 19 #[.pointer (some ⟨B,0,none⟩),.int .i64 t] w fun e w' => e=.returned (.tuple #[gIm (tT l t),.bool (decide (1<=t/\t<=(len:Int)))])/\Below w.heap.size w w' := by
 obtain⟨V,hV⟩:∃V,V=w.alloc (.cells #[.string ⟨#[]⟩,.string ⟨#[]⟩,.bool false,.int .i64 0,.int .i64 0,.int .i64 0,.bool false] 34):=⟨_,rfl⟩
 have hBV:Below w.heap.size w V:=by rw[hV];exact(zzd _ w).alloc (zzb _) _
 have HZ:Hid (V.heap[w.heap.size]? = some (.cells #[.string ⟨#[]⟩,.string ⟨#[]⟩,.bool false,.int .i64 0,.int .i64 0,.int .i64 0,.bool false] 34 (0,0))):=by rw[hV];exact World.alloc_heap_new w _
 have HF:Hid (∀cs,Below w.heap.size w (V.setRow w.heap.size cs)):=fun cs=>below_setRow hBV (zzb _) cs
 obtain⟨tr,ea,ec,ng,nc,h1,_,h3,_,_,_,h15⟩:=h
 have hm:=(hBV.block _ (zza.1 h1).1).trans h1
 have cL:V.cell? ⟨B,3,none⟩=some (.slice a len cap):=cell_of_row V B 3 _ _ _ hm
 have hl3:=h3.below hBV
 have hll:=h3.1
 have hli:(len:Int)<=15:=by omega
 unfold tT
 rw[hll]
 rw[hV] at cL
 by_cases p0:t<1
 ·have hd:decide (t<1)=true:=by simpa using p0
  exact k18
 have hd0:decide (t<1)=false:=by simpa using p0
 by_cases p1:(len:Int)<t
 ·have hd:decide ((len:Int)<t)=true:=by simpa using p1
  exact k18
 have hd1:decide ((len:Int)<t)=false:=by simpa using p1
 obtain⟨n,rfl⟩:∃n:Nat,t=(n:Int)+1:=⟨(t - 1).toNat,oo⟩
 rw[if_pos oo,show decide (1<=(n:Int)+1/\(n:Int)+1<=(len:Int))=true by simp;omega,show ((n:Int)+1 - 1).toNat=n by omega]
 obtain⟨b,o,x,rfl,_,hx,hsp⟩:=hl3.at (i:=n) oo
 obtain⟨s0,s1,s2,s3,s4,s5,s6⟩:=hsp V (zzd _ _)
 rw[hx]
 obtain⟨xn,xe,xf,xm,xl,xk,xb⟩:=x
 have hn0:(0:Int)<=(n:Int):=by omega
 have hnl:(n:Int)<(len:Int):=by omega
 have hns:(n:Int)+1 - 1=(n:Int):=by omega
 rw[hV] at s0 s1 s2 s3 s4 s5 s6
 unfold gIm
 dsimp only[Option.getD_some] at *
 have HV:=Hid.mk_ hV
 clear h1 h3 hm hl3 hll hV hBV hx hsp
 go_enter Tryz.func19,Tryz.ntmps19
 go_wp2_with (first | (rw[<-HV.out];refine wpList_store_row rfl 34 _ _ rfl w.heap.size #[.string xn,.string xe,.bool xf,.int .i64 xm,.int .i64 xl,.int .i64 xk,.bool xb] rfl rfl 34 _ HZ.out wE rfl (hAw _ _ _ _ _ _ _) ?_) | fail)
 refine bodyPost_ret (gU rfl _ _ w.heap.size 34 #[.string xn,.string xe,.bool xf,.int .i64 xm,.int .i64 xl,.int .i64 xk,.bool xb] (0,0) _ rfl (setRow_heap _ _ _ _ _ _ HZ.out) Tryz.underlying34 rfl wE) rfl ?_
 exact⟨rfl,HF.out _⟩
theorem gGs {ks:List gN}{sp:List gV}(h:ks.map (·.1)=jC::sp):ks.length=sp.length+1:=by
 have:=congrArg List.length h
 rwa [List.length_map,List.length_cons] at this
theorem gUr {ks:List gN}{sp:List gV}(h:ks.map (·.1)=jC::sp){n:Nat}{x:gV}(hx:(jC::sp)[n]? = some x):kR ks n=x:=by
 rw[<-h,List.getElem?_map] at hx
 cases hk:ks[n]? with
 | none=>rw[hk] at hx;cases hx
 | some y=>
  rw[hk] at hx;(injection hx with hx);rw[wC hk];exact hx
theorem gOy {ks:List gN}{sp:List gV}(h:ks.map (·.1)=jC::sp){t:Int}(h1:1<=t)(h2:t<=sp.length):kR ks t.toNat=tT sp t:=by
 obtain⟨n,rfl⟩:∃n:Nat,t=(n:Int)+1:=⟨(t - 1).toNat,oo⟩
 obtain⟨x,hx⟩:∃x,sp[n]? = some x:=⟨_,zze oo⟩
 unfold tT
 rw[if_pos ⟨h1,h2⟩,show ((n:Int)+1 - 1).toNat=n by omega,hx,show ((n:Int)+1).toNat=n+1 by omega]
 exact gUr h (by rw[List.getElem?_cons_succ];exact hx)
theorem gHc {G:List Grp}:∀{ss:List ByteArray},kL ss G=0->∀s∈ss,kI s G=0:=by
 intro ss
 induction ss with
 | nil=>intro _ s hs;cases hs
 | cons q r ih=>
  intro h0 s hs;rw[kL] at h0
  by_cases hq:kI q G=0
  ·rw[if_neg (by rw[hq];simp)] at h0
   rcases List.mem_cons.1 hs with rfl | hs
   ·exact hq
   ·exact ih h0 s hs
  ·rw[if_pos hq] at h0
   exact absurd h0 hq
theorem gCa {whole:ByteArray}{sp:List gV}{l:List Tok}{i:Int}(hi:i ≠ -1){n:Nat}(ht:jP l i=(n:Int)+1){x:gV}(hx:sp[n]? = some x):iQ (gS whole sp) l i=gO x.expr:=by
 unfold iQ gS
 rw[if_neg hi,ht,show ((n:Int)+1).toNat=n+1 by omega,List.getD_eq_getElem?_getD,List.map_cons,List.getElem?_cons_succ,List.getElem?_map,List.getElem?_map,hx]
 rfl
theorem gOj {ks:List gN}{gs:List Grp}{ts:List (DataW Unit)}{l:List Tok}{j:Nat}(h:vR ks gs ts l j)(hk:kindAt l j=1):1<=jP l (j:Int)/\jP l (j:Int)<ks.length:=by
 obtain⟨x,hx⟩:∃x,l[j]? = some x:=⟨_,zze (sB hk)⟩
 have hxk:x.k=1:=by rw[<-iF hx];exact hk
 have hxt:jP l (j:Int)=x.t:=by unfold jP;rw[Int.toNat_natCast,hx];rfl
 have hf:=(h.2 oo).1
 rw[hx,Option.getD_some] at hf
 unfold nE at hf
 rw[if_neg oo] at hf
 rw[hxt]
 by_cases hr:1<=x.t/\x.t<ks.length
 ·exact hr
 ·rw[if_neg hr] at hf;cases hf
def gAi (sp:List gV)(l:List Tok)(i:Int):Prop:=i = -1\/∃m n:Nat,i=(m:Int)/\m<l.length/\jP l i=(n:Int)+1/\n<sp.length
theorem hCe {ks:List gN}{sp:List gV}(hks:ks.map (·.1)=jC::sp){gs:List Grp}{ts:List (DataW Unit)}{l:List Tok}{j:Nat}(hj:j<=l.length)(hall:∀q,q<j->vR ks gs ts l q):gAi sp l (gB l (j:Int)):=by
 have hge:=pY l j hj
 rcases lM l j hj with h | ⟨m,h,hm⟩
 ·exact .inl h
 ·rw[h] at hge ⊢
  have ht:=gOj (hall m oo) hm;have hl:=gGs hks;exact .inr ⟨m,(jP l (m:Int) - 1).toNat,rfl,sB hm,oo,oo⟩
theorem sV {whole:ByteArray}{sp:List gV}{G:List Grp}(h6:kL (whole::sp.map (·.expr)) G=0){l:List Tok}{i:Int}(hp:gAi sp l i):chk 200 (iQ (gS whole sp) l i) G=0:=by
 rcases hp with rfl | ⟨m,n,rfl,hm,ht,hn⟩
 ·exact zU (gHc h6 whole (zzg ..))
 ·obtain⟨x,hx⟩:∃x,sp[n]? = some x:=⟨_,zze hn⟩
  rw[gCa oo ht hx];exact zU (gHc h6 x.expr (zzk _ (List.mem_map.2 ⟨x,zzj hx,rfl⟩)))
theorem gZv {ks:List gN}{sp:List gV}(hks:ks.map (·.1)=jC::sp){whole:ByteArray}{G:List Grp}(h6:kL (whole::sp.map (·.expr)) G=0){l:List Tok}{n:Nat}(hn:n<=l.length)(hall:∀q,q<n->vR ks G (gS whole sp) l q):gUz G (gS whole sp) l n:=by
 refine⟨sV h6 (.inl rfl),fun q hq hk=>sV h6 (.inr ?_)⟩
 have ht:=gOj (hall q hq) hk
 have hl:=gGs hks
 exact⟨q,(jP l (q:Int) - 1).toNat,rfl,oo,oo,oo⟩
theorem gRb {ks:List gN}{sp:List gV}(hks:ks.map (·.1)=jC::sp){l:List Tok}{i:Int}(hi:i ≠ -1)(hp:gAi sp l i):oZ ks l i=tT sp (jP l i):=by
 rcases hp with h | ⟨m,n,rfl,hm,ht,hn⟩
 ·exact absurd h hi
 ·unfold oZ
  rw[if_neg hi];exact gOy hks oo oo
theorem gRa {ks:List gN}{sp:List gV}(hks:ks.map (·.1)=jC::sp)(l:List Tok):oZ ks l (-1)=jC:=gUr hks rfl
theorem gMt {whole:ByteArray}{sp:List gV}{l:List Tok}{i:Int}(hp:gAi sp l i):∃s,iQ (gS whole sp) l i=gO s:=by
 rcases hp with rfl | ⟨m,n,rfl,hm,ht,hn⟩
 ·exact⟨whole,rfl⟩
 ·obtain⟨x,hx⟩:∃x,sp[n]? = some x:=⟨_,zze hn⟩
  exact⟨x.expr,gCa oo ht hx⟩
theorem gXj {gs:List Grp}{n:Nat}{t:DataW Unit}{zs:List Int}{i:Nat}(h:pZ gs n t zs i):i=zs.length↔rQ gs n t zs:=by
 obtain⟨h1,h2,h3⟩:=h
 constructor
 ·intro e
  rw[e,List.take_length] at h2;exact h2
 ·intro hp
  apply Classical.byContradiction;intro hne;refine h3 oo (wK (j:=zs.length) (by rw[List.take_length];exact hp) oo)
theorem gFv {B:Nat}{whole:ByteArray}{a:Option Addr}{len cap:Nat}{sp:List gV}{gs:List Grp}(w:World)(h:gAg w B whole a len cap sp gs)(ta:Option Addr)(tl tc:Nat)(l:List Tok)(hl:mC w ta tl l)(hsz:tl<=2048)(i:Int)(hp:gAi sp l i) :
  ∃k s ra rl rc,Ex w 200 (iQ (gS whole sp) l i) (.agg #[.int .i64 k,.string s,.slice ra rl rc])/\∀X,Below w.heap.size w X->Calls Tryz.prog 49 #[.pointer (some ⟨B,0,none⟩),.slice ta tl tc,.int .i64 i] X fun e X' => e=.returned (.agg #[.int .i64 k,.string s,.slice ra rl rc])/\Below X.heap.size X X' := by
 obtain⟨⟨k,s,ra,rl,rc⟩,ea,ec,ng,nc,h1,h2,h3,h4,h5,h6,h15⟩:=h
 have hBl:=(zza.1 h1).1
 rcases hp with rfl | ⟨m,n,rfl,hm,ht,hn⟩
 ·refine⟨k,s,ra,rl,rc,h2,fun X hX=>?_⟩
  obtain⟨V,hV⟩:∃V,V=X.alloc (.cells #[.int .i64 0,.string ⟨#[]⟩,.slice none 0 0] 69):=⟨_,rfl⟩;(have hBV:Below X.heap.size X V:=by rw[hV];exact(zzd _ X).alloc (zzb _) _);(have HZ:Hid (V.heap[X.heap.size]? = some (.cells #[.int .i64 0,.string ⟨#[]⟩,.slice none 0 0] 69 (0,0))):=by rw[hV];exact World.alloc_heap_new X _);(have HF:Hid (∀cs,Below X.heap.size X (V.setRow X.heap.size cs)):=fun cs=>below_setRow hBV (zzb _) cs);have hm:=((hX.trans (hBV.mono hX.size)).block _ hBl).trans h1;have c0:V.cell? ⟨B,0,none⟩=some (.int .i64 k):=cell_of_row V B 0 _ _ _ hm;have c1:V.cell? ⟨B,1,none⟩=some (.string s):=cell_of_row V B 1 _ _ _ hm;have c2:V.cell? ⟨B,2,none⟩=some (.slice ra rl rc):=cell_of_row V B 2 _ _ _ hm;rw[hV] at c0 c1 c2;have HV:=Hid.mk_ hV;clear h1 h2 h3 h4 h5 h6 h15 hm hV hBV hX hl hsz hBl;go_enter Tryz.func49,Tryz.ntmps49;(go_wp2_with (first | (rw[<-HV.out];refine wpList_store_row rfl 69 _ _ rfl X.heap.size #[.int .i64 k,.string s,.slice ra rl rc] rfl rfl 69 _ HZ.out gE rfl (jF _ _ _ _ _) ?_) | fail));refine bodyPost_ret (results_cell_row rfl _ _ X.heap.size 69 #[.int .i64 k,.string s,.slice ra rl rc] (0,0) _ rfl (setRow_heap _ _ _ _ _ _ HZ.out) Tryz.underlying69 rfl gE) rfl ?_;exact⟨rfl,HF.out _⟩
 ·obtain⟨x,hx⟩:∃x,sp[n]? = some x:=⟨_,zze hn⟩
  have hsl:=h3.1;obtain⟨eg,⟨rk,rn,ra,rl,rc⟩,rfl,hgl,d0,d1,d2,hex⟩:=h5 n x hx;rw[gCa oo ht hx];refine⟨rk,rn,ra,rl,rc,hex,fun X hX=>?_⟩;obtain⟨b,o,y,rfl,hbl,hy,hc⟩:=hl.token (k:=m) (by rw[<-hl.1];exact hm)
  have hyt:y.t=(n:Int)+1:=by
   unfold jP at ht;rw[Int.toNat_natCast,hy] at ht;exact ht
  have HCE:Hid (∀Y,Below X.heap.size X Y->Y.cell? ⟨B,4,none⟩=some (.slice (some ⟨eg,0,none⟩) len ec)/\Y.cell? ⟨eg,n * 3,none⟩=some (.int .i64 rk)/\Y.cell? ⟨eg,n * 3+1,none⟩=some (.string rn)/\Y.cell? ⟨eg,n * 3+2,none⟩=some (.slice ra rl rc)/\Y.cell? ⟨b,o+m * 4+1,none⟩=some (.int .i64 ((n:Int)+1))):=fun Y hY=>by
   have hB:=hX.trans (hY.mono hX.size);(have hq:∀j,Y.cell? ⟨eg,j,none⟩=w.cell? ⟨eg,j,none⟩:=fun j=>zzi (hB.block eg hgl));have h2:=(hc Y hB).2.1;rw[hyt] at h2;exact⟨cell_of_row Y B 4 _ _ _ ((hB.block _ hBl).trans h1),by rw[hq];exact d0,by rw[hq];exact d1,by rw[hq];exact d2,h2⟩
  obtain⟨V,hV⟩:∃V,V=X.alloc (.cells #[.int .i64 0,.string ⟨#[]⟩,.slice none 0 0] 69):=⟨_,rfl⟩;(have hBV:Below X.heap.size X V:=by rw[hV];exact(zzd _ X).alloc (zzb _) _);have hVD:=hBV.drew;(have HZ:Hid (V.drew.heap[X.heap.size]? = some (.cells #[.int .i64 0,.string ⟨#[]⟩,.slice none 0 0] 69 (0,0))):=by rw[hV];exact World.alloc_heap_new X _);(have HF:Hid (∀cs,Below X.heap.size X (V.drew.setRow X.heap.size cs)):=fun cs=>below_setRow hVD (zzb _) cs);(have hml:(m:Int)<(tl:Int):=by have:=hl.1;omega);(have htl:(tl:Int)<=2048:=by omega);(have hm0:¬(m:Int)<0:=by omega);(have hn0:(0:Int)<=(n:Int):=by omega);(have hnl:(n:Int)<(len:Int):=by omega);(have hli:(len:Int)<=15:=by omega);(have hns:(n:Int)+1 - 1=(n:Int):=by omega);(have hwr:IntKind.i64.wrap (n:Int)=(n:Int):=by rw[IntKind.wrap_i64];omega);clear h1 h2 h3 h4 h5 h6 h15 hBV hX hl hsz hBl hex hx d0 d1 d2 hgl hc hy hyt ht hm hn hsl hbl;go_enter Tryz.func49,Tryz.ntmps49;(go_wp2_with fail);rw[<-hV];clear hV;refine wp_region_held_drew (S:=fun Y=>Below X.heap.size X Y) hmx hVD (fun hS=>?_);refine gA 0 (some 13) hS ?_;refine gA 1 (some 14) hS ?_;refine gA 2 (some 15) hS ?_;refine gA 3 (some 16) hS ?_ (hy:=by intro w hSw;obtain⟨q0,q1,q2,q3,q4⟩:=HCE.out _ hSw;go_simp;with_reducible rfl);refine gA 4 (some 17) hS ?_;refine gA 5 (some 18) hS ?_;refine gA 6 (some 19) hS ?_;refine gA 7 (some 20) hS ?_;refine gA 8 (some 21) hS ?_ (hy:=by intro w hSw;obtain⟨q0,q1,q2,q3,q4⟩:=HCE.out _ hSw;go_simp;with_reducible rfl);refine gA 9 (some 22) hS ?_;refine gA 10 (some 23) hS ?_;refine gA 11 (some 24) hS ?_ (hy:=by intro w hSw;obtain⟨q0,q1,q2,q3,q4⟩:=HCE.out _ hSw;go_simp;with_reducible rfl);refine gT 12 kr rfl (fun K hK=>?_);rw[if_pos (by rfl)];refine wp_store_row 69 _ _ rfl X.heap.size #[.int .i64 rk,.string rn,.slice ra rl rc] rfl rfl 69 _ HZ.out gE rfl (jF _ _ _ _ _) ?_;refine hK.out _ _ (HF.out _) (fun _=>?_);clear hK K;refine wpAnyH_done kr ?_ _;(go_wp2_with fail);refine bodyPost_ret (results_cell_row rfl _ _ X.heap.size 69 #[.int .i64 rk,.string rn,.slice ra rl rc] (0,0) _ rfl (setRow_heap _ _ _ _ _ _ HZ.out) Tryz.underlying69 rfl gE) rfl ?_;exact⟨rfl,HF.out _⟩
end Go.Proofs.YtjkebndkeamijaaGreatDoor
