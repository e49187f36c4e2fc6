/-
  PROVED HERE: what the texts DARNewP, DARNewS, DAStoreR say.
-/
import Derived.Test.YtmablhmpfcefnaaGreatDoorCADANewF
namespace Go.Proofs.YtmablhmpfcefnaaGreatDoor
open Go.RowKit
theorem ints_same {W W1:World} {a:Option Addr} {n:Nat} {zs:List Int} (h:Ints W a n zs) (hs:W.heap.size<=W1.heap.size) (hb:n≠0->∀b o,a=some ⟨b,o,none⟩->b<W.heap.size->W1.heap[b]? = W.heap[b]?):Ints W1 a n zs:=by
 obtain⟨h1,h2,h3⟩:=h
 refine⟨h1,h2,?_⟩
 by_cases hn:n=0
 ·exact .inl hn
 ·rcases h3 with h3 | ⟨b,o,rfl,hlt,hc⟩
  ·exact .inl h3
  ·exact .inr ⟨b,o,rfl,by omega,fun i x hx=>by rw[zzi (hb hn b o rfl hlt)];exact hc i x hx⟩
def TyAt (base:Nat) (W:World) (x:GrpD):Prop:=Ints W x.2.1 x.2.2.2.length x.2.2.2/\(x.2.2.2.length≠0->∀a,x.2.1=some a->a.block<base\/∃cs f,W.heap[a.block]? = some (.cells cs 3 f))
structure NmR (base:Nat) (W:World) (v:Value) (xs:List GrpD):Prop where
 row:W.ownsRow base 58 2 v xs.length (flatG xs)
 ok:∀x∈xs,TyAt base W x
theorem TyAt.below {base:Nat} {W W' : World} {x:GrpD} (h:TyAt base W x) (hB:Below W.heap.size W W'):TyAt base W' x:=⟨h.1.below hB,fun h0 a ha=>by
 rcases h.2 h0 a ha with h1 | ⟨cs,f,h1⟩
 ·exact .inl h1
 ·exact .inr ⟨cs,f,(hB.block _ (zza.1 h1).1).trans h1⟩⟩
theorem NmR.below {base:Nat} {W W' : World} {v:Value} {xs:List GrpD} (h:NmR base W v xs) (hB:Below W.heap.size W W'):NmR base W' v xs :=
 ⟨owns_same h.row fun g hg=>hB.block g (owns_lt h.row hg).1,fun x hx=>(h.ok x hx).below hB⟩
theorem NmR.put {base:Nat} {W:World} {v:Value} {xs:List GrpD} (h:NmR base W v xs) (x:GrpD) (hx:TyAt base W x) (hlen:xs.length<=1000000) (hbase:base<=W.heap.size) (b:Nat) (hc:∀j u,(grpC x)[j]? = some u->W.cell? ((⟨b,0,none⟩:Addr).add j)=some u) :
  ∃g' cap' W1,(Builtin.append_ #[39,39] 39 #[v,.slice (some ⟨b,0,none⟩) 1 1]).run Tryz.prog W=.ok (.slice (some ⟨g', 0,none⟩) (xs.length+1) cap') W1/\NmR base W1 (.slice (some ⟨g', 0,none⟩) (xs.length+1) cap') (xs++[x])/\W.grownBy W1 v.ownBlock:=by
 obtain⟨i0,hi,hz0,hz1,hz2⟩:=info_parts infoGrp
 obtain⟨v', W1,hrun,r1,r2,_,_⟩:=run_append_own_at (P:=Tryz.prog) W base 39 39 58 i0 _ 2 40 Tryz.underlying39 hi hz0 hz1 hz2 rfl (by decide) v xs.length _ h.row ⟨b,0,none⟩ 1 1 (grpC x) rfl hc (fun u hu=>by
  simp only[grpC,List.mem_cons,List.not_mem_nil,or_false] at hu
  rcases hu with rfl | rfl<;>rfl) (by unfold maxLen;omega) (by omega) hbase
 have e1:flatG xs++grpC x=flatG (xs++[x]):=by rw[flatG_append];simp[flatG]
 rw[e1] at r1
 have apart:∀(b:Nat),b<W.heap.size->(b<base\/∃cs f,W.heap[b]? = some (.cells cs 3 f))->W1.heap[b]? = W.heap[b]? := fun b hlt hy=>by
  refine r2.block b hlt (fun he=>?_)
  obtain⟨_,cur', hcur'⟩:=owns_lt h.row he.symm
  rcases hy with h1 | ⟨cs,f,h1⟩
  ·have:=owned_base h.row he.symm
   omega
  ·rw[hcur'] at h1
   injection h1 with hk
   injection hk with _ h2 _
   exact grp_type h2.symm
 have keep:∀y:GrpD,TyAt base W y->TyAt base W1 y:=fun y hy=>by
  refine⟨ints_same hy.1 r2.size fun h0 b o hb hlt=>apart b hlt (hy.2 h0 _ hb),fun h0 a ha=>?_⟩
  rcases hy.2 h0 a ha with h1 | ⟨cs,f,h1⟩
  ·exact .inl h1
  ·exact .inr ⟨cs,f,(apart _ (zza.1 h1).1 (.inr ⟨cs,f,h1⟩)).trans h1⟩
 obtain⟨g,cap', rfl,_⟩:=owns_cell r1 (Nat.succ_pos _)
 refine⟨g,cap', W1,hrun,⟨by rw[List.length_append];exact r1,fun y hy=>?_⟩,r2⟩
 rcases List.mem_append.1 hy with hy | hy
 ·exact keep y (h.ok y hy)
 ·rw[List.mem_singleton] at hy
  subst hy
  exact keep _ hx
theorem NmR.groups {base:Nat} {W:World} {g c:Nat} {n:Nat} {xs:List GrpD} (h:NmR base W (.slice (some ⟨g,0,none⟩) n c) xs) (hn:n=xs.length) (hlen:xs.length<=1000000):Groups W (some ⟨g,0,none⟩) n (xs.map plainG):=by
 subst hn
 refine⟨by rw[List.length_map],by omega,?_⟩
 rcases Nat.eq_zero_or_pos xs.length with h0 | h0
 ·exact .inl h0
 ·obtain⟨g', cap', e,hc⟩:=owns_cell h.row h0
  injection e with e1
  injection e1 with e1
  injection e1 with e1
  subst e1
  refine .inr ⟨g,0,rfl,(owns_lt h.row (g:=g) rfl).1,fun i y hy=>?_⟩
  rw[List.getElem?_map] at hy
  cases hx:xs[i]? with
  | none=>rw[hx] at hy;cases hy
  | some x=>
   rw[hx] at hy
   cases hy
   obtain⟨f1,f2⟩:=flatG_at hx
   rw[Nat.zero_add]
   exact⟨x.2.1,x.2.2.2.length,x.2.2.1,hc _ _ f1,hc _ _ f2,(h.ok x (zzj hx)).1⟩
theorem one_ints (W:World) (t:Int):Ints (W.alloc (.cells #[.int .i64 t] 3)) (some ⟨W.heap.size,0,none⟩) 1 [t]:=Ints.one (World.alloc_heap_new W _)
theorem nmr_first (w:World):NmR w.heap.size ((w.alloc (.cells #[.int .i64 0] 3)).alloc (.cells #[.string textB,.slice (some ⟨w.heap.size,0,none⟩) 1 1] 58)) (.slice (some ⟨w.heap.size+1,0,none⟩) 1 1) [(textB,some ⟨w.heap.size,0,none⟩,1,[0])]:=by
 refine⟨(names_first w).row,fun x hx=>?_⟩
 rw[List.mem_singleton] at hx
 subst hx
 have hB:Below (w.alloc (.cells #[.int .i64 0] 3)).heap.size (w.alloc (.cells #[.int .i64 0] 3)) ((w.alloc (.cells #[.int .i64 0] 3)).alloc (.cells #[.string textB,.slice (some ⟨w.heap.size,0,none⟩) 1 1] 58)):=(zzd _ _).alloc (zzb _) _
 refine⟨(one_ints w 0).below hB,fun _ a ha=>?_⟩
 cases ha
 exact .inr ⟨_,_,(hB.block w.heap.size (by rw[World.size_alloc];omega)).trans (World.alloc_heap_new w _)⟩
theorem nmr_type {w wr:World} {v:Value} {xs:List GrpD} {i:Nat} (h:NmR w.heap.size wr v xs) (hlen:xs.length<=100) (hB:Below w.heap.size w wr) (nm:ByteArray) :
  ∃g' cap' W1,(Builtin.append_ #[39,39] 39 #[v,.slice (some ⟨wr.heap.size+1,0,none⟩) 1 1]).run Tryz.prog ((wr.alloc (.cells #[.int .i64 ((i:Int)+1)] 3)).alloc (.cells #[.string nm,.slice (some ⟨wr.heap.size,0,none⟩) 1 1] 58))=.ok (.slice (some ⟨g', 0,none⟩) (xs.length+1) cap') W1/\NmR w.heap.size W1 (.slice (some ⟨g', 0,none⟩) (xs.length+1) cap') (xs++[(nm,some ⟨wr.heap.size,0,none⟩,1,[(i:Int)+1])])/\Below w.heap.size w W1:=by
 obtain⟨W2,hW2⟩:∃W2,W2=wr.alloc (.cells #[.int .i64 ((i:Int)+1)] 3):=⟨_,rfl⟩
 have s2:W2.heap.size=wr.heap.size+1:=by rw[hW2,World.size_alloc]
 have hB2:Below wr.heap.size wr W2:=by rw[hW2];exact(zzd _ wr).alloc (zzb _) _
 have hi2:Ints W2 (some ⟨wr.heap.size,0,none⟩) 1 [(i:Int)+1]:=by rw[hW2];exact one_ints wr _
 have m2:W2.heap[wr.heap.size]? = some (.cells #[.int .i64 ((i:Int)+1)] 3 (0,0)):=by rw[hW2];exact World.alloc_heap_new wr _
 rw[<-hW2,<-s2]
 clear hW2
 obtain⟨W3,hW3⟩:∃W3,W3=W2.alloc (.cells #[.string nm,.slice (some ⟨wr.heap.size,0,none⟩) 1 1] 58):=⟨_,rfl⟩
 have hB23:Below W2.heap.size W2 W3:=by rw[hW3];exact(zzd _ _).alloc (zzb _) _
 have hB3:Below wr.heap.size wr W3:=hB2.trans (hB23.mono hB2.size)
 have hc:=two_cells W2 (.string nm) (.slice (some ⟨wr.heap.size,0,none⟩) 1 1) 58
 rw[<-hW3] at hc ⊢
 have hBw:Below w.heap.size w W3:=hB.trans (hB3.mono hB.size)
 obtain⟨g', cap', Z,h1,h2,h3⟩:=(h.below hB3).put (nm,some ⟨wr.heap.size,0,none⟩,1,[(i:Int)+1]) ⟨hi2.below hB23,fun _ a ha=>by cases ha;exact .inr ⟨_,_,(hB23.block wr.heap.size (by omega)).trans m2⟩⟩ (by omega) hBw.size W2.heap.size hc
 exact⟨g', cap', Z,h1,h2,hBw.grown h3 hBw.size (fun k e=>owned_base h.row e)⟩
theorem nmr_group {w wr:World} {v:Value} {xs:List GrpD} {x:Grp} {ta:Option Addr} {tl tc:Nat} (h:NmR w.heap.size wr v xs) (hlen:xs.length<=100) (hB:Below w.heap.size w wr) (hx:Ints w ta tl x.2) :
  ∃g' cap' W1,(Builtin.append_ #[39,39] 39 #[v,.slice (some ⟨wr.heap.size,0,none⟩) 1 1]).run Tryz.prog (wr.alloc (.cells #[.string x.1,.slice ta tl tc] 58))=.ok (.slice (some ⟨g', 0,none⟩) (xs.length+1) cap') W1/\NmR w.heap.size W1 (.slice (some ⟨g', 0,none⟩) (xs.length+1) cap') (xs++[(x.1,ta,tc,x.2)])/\Below w.heap.size w W1:=by
 have hB3:Below wr.heap.size wr (wr.alloc (.cells #[.string x.1,.slice ta tl tc] 58)):=(zzd _ _).alloc (zzb _) _
 have hBw:Below w.heap.size w (wr.alloc (.cells #[.string x.1,.slice ta tl tc] 58)):=hB.trans (hB3.mono hB.size)
 have hxl:x.2.length=tl:=hx.1
 have ht:TyAt w.heap.size (wr.alloc (.cells #[.string x.1,.slice ta tl tc] 58)) (x.1,ta,tc,x.2):=by
  refine⟨?_,fun h0 a ha=>?_⟩
  ·show Ints _ ta x.2.length x.2
   rw[hxl]
   exact hx.below hBw
  ·have h0' : tl≠0:=by rw[<-hxl];exact h0
   have ha' : ta=some a:=ha
   rcases hx.2.2 with h1 | ⟨b,o,h1,h2,_⟩
   ·exact absurd h1 h0'
   ·rw[h1] at ha'
    cases ha'
    exact .inl h2
 have hc:=two_cells wr (.string x.1) (.slice ta tl tc) 58
 obtain⟨g', cap', Z,h1,h2,h3⟩:=(h.below hB3).put (x.1,ta,tc,x.2) ht (by omega) hBw.size wr.heap.size (by unfold grpC;dsimp only;rw[hxl];exact hc)
 exact⟨g', cap', Z,h1,h2,hBw.grown h3 hBw.size (fun k e=>owned_base h.row e)⟩
def NA (B Eb:Nat) (ev:Value) (b:Nat):Prop:=b≠B/\b≠Eb/\ev.ownBlock≠some b
def schC (r:Raw) (lv ev gv:Value):Array Value:=#[.int .i64 r.1,.string r.2.1,.slice r.2.2.1 r.2.2.2.1 r.2.2.2.2,lv,ev,gv]
def rawA (r:Raw):Array Value:=#[.int .i64 r.1,.string r.2.1,.slice r.2.2.1 r.2.2.2.1 r.2.2.2.2]
structure NwI (W1:World) (B Eb:Nat) (tr:Raw) (Tw:DataW Unit) (lv gv:Value) (es:List ByteArray) (wr:World) (j:Nat) (ev:Value) (rs:List Raw) (er:Raw):Prop where
 bel:Below W1.heap.size W1 wr
 B0:B=W1.heap.size
 Eb0:W1.heap.size<Eb
 blk:wr.heap[B]? = some (.cells (schC tr lv ev gv) 66 (0,0))
 eb:wr.heap[Eb]? = some (.cells (rawA er) 64 (0,0))
 own:wr.ownsRow W1.heap.size 64 3 ev j (rawC rs)
 len:rs.length=j
 apart:ev.ownBlock≠some Eb
 whole:ExA (NA B Eb ev) wr 200 Tw (rawV tr)
 trees:∀(i:Nat) (s:ByteArray) (r:Raw),es[i]? = some s->rs[i]? = some r->ExA (NA B Eb ev) wr 200 (outTree s) (rawV r)
theorem NwI.ownB {W1:World} {B Eb:Nat} {tr:Raw} {Tw:DataW Unit} {lv gv:Value} {es:List ByteArray} {wr:World} {j:Nat} {ev:Value} {rs:List Raw} {er:Raw} (h:NwI W1 B Eb tr Tw lv gv es wr j ev rs er):ev.ownBlock≠some B:=fun e=>by
 obtain⟨_,cur,hcur⟩:=owns_lt h.own e
 rw[h.blk] at hcur
 injection hcur with hk
 injection hk with _ h2 _
 exact absurd h2 (by decide)
theorem NwI.below {W1:World} {B Eb:Nat} {tr:Raw} {Tw:DataW Unit} {lv gv:Value} {es:List ByteArray} {wr:World} {j:Nat} {ev:Value} {rs:List Raw} {er:Raw} (h:NwI W1 B Eb tr Tw lv gv es wr j ev rs er) {X:World} (hX:Below wr.heap.size wr X):NwI W1 B Eb tr Tw lv gv es X j ev rs er :=
 ⟨h.bel.trans (hX.mono h.bel.size),h.B0,h.Eb0,(hX.block _ (zza.1 h.blk).1).trans h.blk,(hX.block _ (zza.1 h.eb).1).trans h.eb,owns_same h.own fun g hg=>hX.block g (owns_lt h.own hg).1,h.len,h.apart,ExA.kept hX.size (fun b hb hA=>⟨hA,hX.block b hb⟩) _ _ _ h.whole,fun i s r hs hr=>ExA.kept hX.size (fun b hb hA=>⟨hA,hX.block b hb⟩) _ _ _ (h.trees i s r hs hr)⟩
theorem NwI.put {W1:World} {B Eb:Nat} {tr:Raw} {Tw:DataW Unit} {lv gv:Value} {es:List ByteArray} {wr:World} {j:Nat} {ev:Value} {rs:List Raw} {er:Raw} (h:NwI W1 B Eb tr Tw lv gv es wr j ev rs er) (r:Raw):NwI W1 B Eb tr Tw lv gv es (wr.setRow Eb (rawA r)) j ev rs r:=by
 have hne:B≠Eb:=by have:=h.B0;have:=h.Eb0;omega
 have oth:∀k,k≠Eb->(wr.setRow Eb (rawA r)).heap[k]? = wr.heap[k]? := fun k hk=>setRow_other _ _ _ _ (fun e=>hk e)
 refine⟨below_setRow h.bel (Nat.le_of_lt h.Eb0) _,h.B0,h.Eb0,(oth B hne).trans h.blk,setRow_heap _ _ _ _ _ _ h.eb,owns_same h.own fun g hg=>oth g (fun e=>h.apart (by rw[hg,e])),h.len,h.apart,ExA.kept (by rw[size_setRow];exact zzb _) (fun b hb hA=>⟨hA,oth b hA.2.1⟩) _ _ _ h.whole,fun i s q hs hr=>ExA.kept (by rw[size_setRow];exact zzb _) (fun b hb hA=>⟨hA,oth b hA.2.1⟩) _ _ _ (h.trees i s q hs hr)⟩
theorem set_last3 (xs:List Value) (p q r a b c:Value) (n:Nat) (hn:xs.length=n):(((xs++[p,q,r]).set n a).set (n+1) b).set (n+2) c=xs++[a,b,c]:=by
 subst hn
 induction xs with
 | nil=>rfl
 | cons x s ih=>simp only[List.cons_append,List.length_cons,Nat.add_right_comm _ 1,List.set_cons_succ,ih]
theorem infoExp:(Tryz.prog.info? 64).map (fun i=>(i.zero,i.size,i.bytes))=some (some (.agg #[.int .i64 0,.string ⟨#[]⟩,.slice none 0 0]),3,48):=by kernel_rfl
theorem three_cells (w:World) (x0 x1 x2:Value) (t:TypeId):∀j u,[x0,x1,x2][j]? = some u->(w.alloc (.cells #[x0,x1,x2] t)).cell? ((⟨w.heap.size,0,none⟩:Addr).add j)=some u:=by
 intro j u hj
 have hadd:(⟨w.heap.size,0,none⟩:Addr).add j=⟨w.heap.size,j,none⟩:=by unfold Addr.add;split<;>simp_all
 rw[hadd]
 match j,hj with
 | 0,hj=>simp at hj;subst hj;simp
 | 1,hj=>simp at hj;subst hj;simp
 | 2,hj=>simp at hj;subst hj;simp
structure NwS (W1:World) (B Eb:Nat) (tr:Raw) (lv gv v0:Value) (Y2:World) (j g' c' : Nat) (Y:World) (L:List Value) (ev:Value):Prop where
 own:Y.ownsRow W1.heap.size 64 3 (.slice (some ⟨g', 0,none⟩) (j+1) c') (j+1) L
 blk:Y.heap[B]? = some (.cells (schC tr lv ev gv) 66 (0,0))
 oth:∀k,k≠B->k≠g' -> Y.heap[k]? = Y2.heap[k]?
 size:Y.heap.size=Y2.heap.size
 os:Y.os=Y2.os
 tape:Y.tape=Y2.tape
 output:Y.output=Y2.output
theorem NwS.apart {W1:World} {B Eb:Nat} {tr:Raw} {lv gv v0:Value} {Y2:World} {j g' c' : Nat} {Y:World} {L:List Value} {ev:Value} (h:NwS W1 B Eb tr lv gv v0 Y2 j g' c' Y L ev):g' ≠ B:=fun e=>by
 obtain⟨_,cur,hcur⟩:=owns_lt h.own (g:=g') rfl
 rw[e,h.blk] at hcur
 injection hcur with hk
 injection hk with _ h2 _
 exact absurd h2 (by decide)
theorem NwS.elem {W1:World} {B Eb:Nat} {tr:Raw} {lv gv v0:Value} {Y2:World} {j g' c' : Nat} {Y:World} {L:List Value} {ev:Value} (h:NwS W1 B Eb tr lv gv v0 Y2 j g' c' Y L ev) (q:Nat) (hq:q<(j+1) * 3) (u:Value):(∃x,Y.cell? ⟨g', q,none⟩=some x)/\Y.frozen? ⟨g', q,none⟩=false/\NwS W1 B Eb tr lv gv v0 Y2 j g' c' (Y.setCell ⟨g', q,none⟩ u) (L.set q u) ev:=by
 have hne:=h.apart
 obtain⟨_,cur,hcur⟩:=owns_lt h.own (g:=g') rfl
 obtain⟨g2,c2,e,hc⟩:=owns_cell h.own (by omega)
 injection e with e1
 injection e1 with e1
 injection e1 with e1
 subst e1
 refine⟨⟨_,hc q _ (zze (by rw[h.own.1];exact hq))⟩,by simp[World.frozen?,hcur],row_setb h.own q u,?_,fun k h1 h2=>?_,?_,h.os,h.tape,h.output⟩
 ·exact(zzh Y _ u B (fun e=>hne e.symm)).trans h.blk
 ·exact(zzh Y _ u k (fun e=>h2 e)).trans (h.oth k h1 h2)
 ·exact(by simp:(Y.setCell ⟨g', q,none⟩ u).heap.size=Y.heap.size).trans h.size
theorem NwS.slot {W1:World} {B Eb:Nat} {tr:Raw} {lv gv v0:Value} {Y2:World} {j g' c' : Nat} {Y:World} {L:List Value} {ev:Value} (h:NwS W1 B Eb tr lv gv v0 Y2 j g' c' Y L ev) (u:Value):Y.cell? ⟨B,4,none⟩=some ev/\Y.frozen? ⟨B,4,none⟩=false/\NwS W1 B Eb tr lv gv v0 Y2 j g' c' (Y.setCell ⟨B,4,none⟩ u) L u:=by
 have hne:=h.apart
 refine⟨cell_of_row Y B 4 _ _ _ h.blk,by simp[World.frozen?,h.blk],owns_same h.own fun g hg=>?_,?_,fun k h1 h2=>?_,?_,h.os,h.tape,h.output⟩
 ·have:g=g' := by cases hg;rfl
  subst this
  exact zzh Y _ u g (fun e=>hne e)
 ·have:=heap_setCell_same Y B 4 _ _ u h.blk
  exact this
 ·exact(zzh Y _ u k (fun e=>h1 e)).trans (h.oth k h1 h2)
 ·exact(by simp:(Y.setCell ⟨B,4,none⟩ u).heap.size=Y.heap.size).trans h.size
theorem NwS.three {W1:World} {B Eb:Nat} {tr:Raw} {lv gv v0:Value} {Y2:World} {j g' c' : Nat} {Y:World} {L:List Value} {ev:Value} (h:NwS W1 B Eb tr lv gv v0 Y2 j g' c' Y L ev) (a b c:Value):((∃x,Y.cell? ⟨g', j * 3,none⟩=some x)/\Y.frozen? ⟨g', j * 3,none⟩=false)/\((∃x,(Y.setCell ⟨g', j * 3,none⟩ a).cell? ⟨g', j * 3+1,none⟩=some x)/\(Y.setCell ⟨g', j * 3,none⟩ a).frozen? ⟨g', j * 3+1,none⟩=false)/\((∃x,((Y.setCell ⟨g', j * 3,none⟩ a).setCell ⟨g', j * 3+1,none⟩ b).cell? ⟨g', j * 3+2,none⟩=some x)/\((Y.setCell ⟨g', j * 3,none⟩ a).setCell ⟨g', j * 3+1,none⟩ b).frozen? ⟨g', j * 3+2,none⟩=false)/\NwS W1 B Eb tr lv gv v0 Y2 j g' c' (((Y.setCell ⟨g', j * 3,none⟩ a).setCell ⟨g', j * 3+1,none⟩ b).setCell ⟨g', j * 3+2,none⟩ c) (((L.set (j * 3) a).set (j * 3+1) b).set (j * 3+2) c) ev:=by
 obtain⟨e0,f0,s0⟩:=h.elem (j * 3) (by omega) a
 obtain⟨e1,f1,s1⟩:=s0.elem (j * 3+1) (by omega) b
 obtain⟨e2,f2,s2⟩:=s1.elem (j * 3+2) (by omega) c
 exact⟨⟨e0,f0⟩,⟨e1,f1⟩,⟨e2,f2⟩,s2⟩
theorem NwI.grow {W1:World} {B Eb:Nat} {tr:Raw} {Tw:DataW Unit} {lv gv:Value} {es:List ByteArray} {wr:World} {j:Nat} {ev:Value} {rs:List Raw} {er:Raw} (h:NwI W1 B Eb tr Tw lv gv es wr j ev rs er) (hj:j<=100) :
  ∃g' c' Y2,(Builtin.append_ #[62,62] 62 #[ev,.slice (some ⟨wr.heap.size,0,none⟩) 1 1]).run Tryz.prog (wr.alloc (.cells #[.int .i64 0,.string ⟨#[]⟩,.slice none 0 0] 64))=.ok (.slice (some ⟨g', 0,none⟩) (j+1) c') Y2 ∧
   NwS W1 B Eb tr lv gv ev Y2 j g' c' Y2 (rawC rs++[.int .i64 0,.string ⟨#[]⟩,.slice none 0 0]) ev ∧
   (∀(Z:World) (s:ByteArray),es[j]? = some s->(∃lo,lo<=wr.heap.size/\Eb<lo/\(∀g,ev.ownBlock=some g->g<lo)/\ExA (fun b=>lo<=b) wr 200 (outTree s) (rawV er))->NwS W1 B Eb tr lv gv ev Y2 j g' c' Z (rawC (rs++[er])) (.slice (some ⟨g', 0,none⟩) (j+1) c')->NwI W1 B Eb tr Tw lv gv es Z (j+1) (.slice (some ⟨g', 0,none⟩) (j+1) c') (rs++[er]) er) ∧
   (∀(Z:World) (L:List Value) (u:Value),NwS W1 B Eb tr lv gv ev Y2 j g' c' Z L u->Z.heap[Eb]? = some (.cells (rawA er) 64 (0,0))):=by
 have hBa:Below wr.heap.size wr (wr.alloc (.cells #[.int .i64 0,.string ⟨#[]⟩,.slice none 0 0] 64)):=(zzd _ _).alloc (zzb _) _
 have hI:=h.below hBa
 obtain⟨i0,hi,hz0,hz1,hz2⟩:=info_parts infoExp
 obtain⟨v', Y2,hrun,r1,r2,_,r4⟩:=run_append_own_at (P:=Tryz.prog) (wr.alloc (.cells #[.int .i64 0,.string ⟨#[]⟩,.slice none 0 0] 64)) W1.heap.size 62 62 64 i0 _ 3 48 Tryz.underlying62 hi hz0 hz1 hz2 rfl (by decide) ev j _ hI.own ⟨wr.heap.size,0,none⟩ 1 1 [.int .i64 0,.string ⟨#[]⟩,.slice none 0 0] rfl (three_cells wr _ _ _ _) (fun u hu=>by
  simp only[List.mem_cons,List.not_mem_nil,or_false] at hu
  rcases hu with rfl | rfl | rfl<;>rfl) (by unfold maxLen;omega) (by omega) hI.bel.size
 obtain⟨g', c', rfl,_⟩:=owns_cell r1 (Nat.succ_pos _)
 have hgB:ev.ownBlock≠some B:=hI.ownB
 have hblk:Y2.heap[B]? = some (.cells (schC tr lv ev gv) 66 (0,0)):=(r2.block B (zza.1 hI.blk).1 (fun e=>hgB e.symm)).trans hI.blk
 have r4' : some g' = ev.ownBlock\/some g' = some (wr.alloc (.cells #[.int .i64 0,.string ⟨#[]⟩,.slice none 0 0] 64)).heap.size:=r4
 have hne:B≠Eb:=by have:=h.B0;have:=h.Eb0;omega
 have hgE:g' ≠ Eb:=fun e=>by
  rcases r4' with h1 | h1
  ·exact h.apart (by rw[<-h1,e])
  ·have h2:g' = (wr.alloc (.cells #[.int .i64 0,.string ⟨#[]⟩,.slice none 0 0] 64)).heap.size:=zzo h1
   have:=(zza.1 hI.eb).1
   omega
 have heb:∀(Z:World) (L:List Value) (u:Value),NwS W1 B Eb tr lv gv ev Y2 j g' c' Z L u->Z.heap[Eb]? = some (.cells (rawA er) 64 (0,0)):=fun Z L u hZ=>(hZ.oth Eb (fun e=>hne e.symm) (fun e=>hgE e.symm)).trans ((r2.block Eb (zza.1 hI.eb).1 (fun e=>h.apart e.symm)).trans hI.eb)
 refine⟨g', c', Y2,hrun,⟨r1,hblk,fun _ _ _=>rfl,rfl,rfl,rfl,rfl⟩,fun Z s hs hex hZ=>?_,heb⟩
 obtain⟨lo,lo1,lo2,lo3,hex⟩:=hex
 have hsz:wr.heap.size<=Y2.heap.size:=Nat.le_trans hBa.size r2.size
 have hbY:Below W1.heap.size W1 Y2:=hI.bel.grown r2 hI.bel.size (fun k e=>owned_base hI.own e)
 have hg1:W1.heap.size<=g' := owned_base hZ.own rfl
 -- what is none of New's own blocks is as it was
 have same:∀b,b<wr.heap.size->NA B Eb ev b->b≠g' /\ Z.heap[b]? = wr.heap[b]? := fun b hb hA=>by
  have h2:b≠g' := fun e=>by
   rcases r4' with h1 | h1
   ·exact hA.2.2 (by rw[<-h1,e])
   ·have h2:g' = (wr.alloc (.cells #[.int .i64 0,.string ⟨#[]⟩,.slice none 0 0] 64)).heap.size:=zzo h1
    rw[World.size_alloc] at h2
    omega
  refine⟨h2,(hZ.oth b hA.1 h2).trans ((r2.block b (zzl hb hBa.size) (fun e=>hA.2.2 e.symm)).trans (hBa.block b hb))⟩
 have keep:∀(t:DataW Unit) (v:Value),ExA (NA B Eb ev) wr 200 t v->ExA (NA B Eb (.slice (some ⟨g', 0,none⟩) (j+1) c')) Z 200 t v:=fun t v hx=>ExA.kept (by rw[hZ.size];exact hsz) (fun b hb hA=>⟨⟨hA.1,hA.2.1,fun e=>(same b hb hA).1 (zzo e).symm⟩,(same b hb hA).2⟩) _ _ _ hx
 have hlen:=h.len
 refine⟨⟨hZ.os.trans hbY.os,hZ.tape.trans hbY.tape,hZ.output.trans hbY.output,by rw[hZ.size];exact hbY.size,fun k hk=>(hZ.oth k (by have:=h.B0;omega) (by omega)).trans (hbY.block k hk)⟩,h.B0,h.Eb0,hZ.blk,?_,hZ.own,by rw[List.length_append,hlen];rfl,fun e=>hgE (zzo e),keep _ _ h.whole,fun i s' r hs' hr=>?_⟩
 ·exact heb Z _ _ hZ
 ·rcases Nat.lt_or_ge i j with h1 | h1
  ·rw[List.getElem?_append_left (by omega)] at hr
   exact keep _ _ (h.trees i s' r hs' hr)
  ·have hij:i=j:=by
    have:=(zzc.1 hr).1
    rw[List.length_append,List.length_singleton] at this
    omega
   subst hij
   rw[List.getElem?_append_right (by omega),hlen,Nat.sub_self] at hr
   cases hr
   rw[hs] at hs'
   cases hs'
   refine keep _ _ (ExA.mono (fun b hb hA=>⟨?_,?_,fun e=>?_⟩) hex)
   ·have:=h.B0;have:=h.Eb0;omega
   ·omega
   ·have:=lo3 b e;omega
def NwF (W1 X2:World) (tr:Raw) (Tw:DataW Unit) (lv gv:Value) (es:List ByteArray):Prop :=
 ((X2.alloc (.cells (rawA tr) 64)).cell? ⟨X2.heap.size,0,none⟩=some (.int .i64 tr.1)/\(X2.alloc (.cells (rawA tr) 64)).cell? ⟨X2.heap.size,1,none⟩=some (.string tr.2.1)/\(X2.alloc (.cells (rawA tr) 64)).cell? ⟨X2.heap.size,2,none⟩=some (.slice tr.2.2.1 tr.2.2.2.1 tr.2.2.2.2)) ∧
 (∃u,(X2.alloc (.cells (rawA tr) 64)).cell? ⟨W1.heap.size,0,none⟩=some u/\(X2.alloc (.cells (rawA tr) 64)).frozen? ⟨W1.heap.size,0,none⟩=false) ∧
 (∃u,((X2.alloc (.cells (rawA tr) 64)).setCell ⟨W1.heap.size,0,none⟩ (.int .i64 tr.1)).cell? ⟨W1.heap.size,1,none⟩=some u/\((X2.alloc (.cells (rawA tr) 64)).setCell ⟨W1.heap.size,0,none⟩ (.int .i64 tr.1)).frozen? ⟨W1.heap.size,1,none⟩=false) ∧
 (∃u,(((X2.alloc (.cells (rawA tr) 64)).setCell ⟨W1.heap.size,0,none⟩ (.int .i64 tr.1)).setCell ⟨W1.heap.size,1,none⟩ (.string tr.2.1)).cell? ⟨W1.heap.size,2,none⟩=some u/\(((X2.alloc (.cells (rawA tr) 64)).setCell ⟨W1.heap.size,0,none⟩ (.int .i64 tr.1)).setCell ⟨W1.heap.size,1,none⟩ (.string tr.2.1)).frozen? ⟨W1.heap.size,2,none⟩=false) ∧
 NwI W1 W1.heap.size X2.heap.size tr Tw lv gv es ((((X2.alloc (.cells (rawA tr) 64)).setCell ⟨W1.heap.size,0,none⟩ (.int .i64 tr.1)).setCell ⟨W1.heap.size,1,none⟩ (.string tr.2.1)).setCell ⟨W1.heap.size,2,none⟩ (.slice tr.2.2.1 tr.2.2.2.1 tr.2.2.2.2)) 0 (.slice none 0 0) [] tr
theorem nw_start {W1 X2:World} {tr:Raw} {Tw:DataW Unit} {lv gv:Value} {es:List ByteArray} (hB2:Below (W1.alloc (.cells #[.int .i64 0,.string ⟨#[]⟩,.slice none 0 0,lv,.slice none 0 0,gv] 66)).heap.size (W1.alloc (.cells #[.int .i64 0,.string ⟨#[]⟩,.slice none 0 0,lv,.slice none 0 0,gv] 66)) X2) (hT:ExA (fun b=>(W1.alloc (.cells #[.int .i64 0,.string ⟨#[]⟩,.slice none 0 0,lv,.slice none 0 0,gv] 66)).heap.size<=b) X2 200 Tw (rawV tr)):NwF W1 X2 tr Tw lv gv es:=by
 obtain⟨X1,hX1⟩:∃X1,X1=W1.alloc (.cells #[.int .i64 0,.string ⟨#[]⟩,.slice none 0 0,lv,.slice none 0 0,gv] 66):=⟨_,rfl⟩
 have s1:X1.heap.size=W1.heap.size+1:=by rw[hX1,World.size_alloc]
 have hB1:Below W1.heap.size W1 X1:=by rw[hX1];exact(zzd _ _).alloc (zzb _) _
 have m1:X1.heap[W1.heap.size]? = some (.cells #[.int .i64 0,.string ⟨#[]⟩,.slice none 0 0,lv,.slice none 0 0,gv] 66 (0,0)):=by rw[hX1];exact World.alloc_heap_new W1 _
 rw[<-hX1] at hB2 hT
 clear hX1
 obtain⟨X3,hX3⟩:∃X3,X3=X2.alloc (.cells (rawA tr) 64):=⟨_,rfl⟩
 have hB23:Below X2.heap.size X2 X3:=by rw[hX3];exact(zzd _ _).alloc (zzb _) _
 have m3:X3.heap[X2.heap.size]? = some (.cells (rawA tr) 64 (0,0)):=by rw[hX3];exact World.alloc_heap_new X2 _
 have hsz:=hB2.size
 have hsz2:=hB23.size
 have b3:X3.heap[W1.heap.size]? = some (.cells #[.int .i64 0,.string ⟨#[]⟩,.slice none 0 0,lv,.slice none 0 0,gv] 66 (0,0)):=(hB23.block _ (by omega)).trans ((hB2.block _ (by omega)).trans m1)
 unfold NwF
 rw[<-hX3]
 have hB3:Below W1.heap.size W1 X3:=hB1.trans ((hB2.trans (hB23.mono hB2.size)).mono hB1.size)
 have hT3:ExA (fun b=>X1.heap.size<=b/\b<X2.heap.size) X3 200 Tw (rawV tr):=ExA.kept hB23.size (fun b hb hA=>⟨⟨hA,hb⟩,hB23.block b hb⟩) _ _ _ hT
 have hc3:=fun j=>cell_of_row X3 X2.heap.size j _ _ _ m3
 have b4:=heap_setCell_same X3 W1.heap.size 0 _ _ (.int .i64 tr.1) b3
 have b5:=heap_setCell_same _ W1.heap.size 1 _ _ (.string tr.2.1) b4
 have b6:=heap_setCell_same _ W1.heap.size 2 _ _ (.slice tr.2.2.1 tr.2.2.2.1 tr.2.2.2.2) b5
 have oth:∀k,k≠W1.heap.size->(((X3.setCell ⟨W1.heap.size,0,none⟩ (.int .i64 tr.1)).setCell ⟨W1.heap.size,1,none⟩ (.string tr.2.1)).setCell ⟨W1.heap.size,2,none⟩ (.slice tr.2.2.1 tr.2.2.2.1 tr.2.2.2.2)).heap[k]? = X3.heap[k]? := fun k hk=>by
  rw[zzh _ _ _ k (fun e=>hk e),zzh _ _ _ k (fun e=>hk e),zzh _ _ _ k (fun e=>hk e)]
 have osz:(((X3.setCell ⟨W1.heap.size,0,none⟩ (.int .i64 tr.1)).setCell ⟨W1.heap.size,1,none⟩ (.string tr.2.1)).setCell ⟨W1.heap.size,2,none⟩ (.slice tr.2.2.1 tr.2.2.2.1 tr.2.2.2.2)).heap.size=X3.heap.size:=by simp
 refine⟨⟨hc3 0,hc3 1,hc3 2⟩,⟨_,cell_of_row X3 _ 0 _ _ _ b3,by simp[World.frozen?,b3]⟩,⟨_,cell_of_row _ _ 1 _ _ _ b4,by simp only[World.frozen?,b4];rfl⟩,⟨_,cell_of_row _ _ 2 _ _ _ b5,by simp only[World.frozen?,b5];rfl⟩,⟨hB3.os,hB3.tape,hB3.output,by rw[osz];exact hB3.size,fun k hk=>(oth k (by omega)).trans (hB3.block k hk)⟩,rfl,by omega,b6,(oth _ (by omega)).trans m3,World.ownsRow_nil ..,rfl,(fun e=>by cases e),?_,(fun i s r _ hr=>by simp at hr)⟩
 exact ExA.kept (by rw[osz];exact zzb _) (fun b hb hA=>⟨⟨by omega,by omega,(fun e=>by cases e)⟩,oth b (by omega)⟩) _ _ _ hT3
def RSch (w:World) (B:Nat) (whole:ByteArray) (a:Option Addr) (len cap:Nat) (l:List SpecD) (gs:List Grp):Prop :=
 ∃(tr:Raw) (ea:Option Addr) (ec ng nc:Nat),w.heap[B]? = some (.cells (schC tr (.slice a len cap) (.slice ea len ec) (.slice (some ⟨ng,0,none⟩) (namesD l gs).length nc)) 66 (0,0)) ∧
  Ex w 200 (outTree whole) (rawV tr)/\Specs w a len l/\Groups w (some ⟨ng,0,none⟩) (namesD l gs).length (namesD l gs) ∧
  (∀(i:Nat) (x:SpecD),l[i]? = some x->∃(g:Nat) (r:Raw),ea=some ⟨g,0,none⟩/\g<w.heap.size/\w.cell? ⟨g,i * 3,none⟩=some (.int .i64 r.1)/\w.cell? ⟨g,i * 3+1,none⟩=some (.string r.2.1)/\w.cell? ⟨g,i * 3+2,none⟩=some (.slice r.2.2.1 r.2.2.2.1 r.2.2.2.2)/\Ex w 200 (outTree x.expr) (rawV r)) ∧
  firstE (whole::l.map (·.expr)) (namesD l gs)=0/\len<=15
theorem RSch.below {w w' : World} {B:Nat} {whole:ByteArray} {a:Option Addr} {len cap:Nat} {l:List SpecD} {gs:List Grp} (h:RSch w B whole a len cap l gs) (hB:Below w.heap.size w w'):RSch w' B whole a len cap l gs:=by
 obtain⟨tr,ea,ec,ng,nc,h1,h2,h3,h4,h5,h6⟩:=h
 refine⟨tr,ea,ec,ng,nc,(hB.block _ (zza.1 h1).1).trans h1,Ex.below hB _ _ _ h2,h3.below hB,h4.below hB,fun i x hx=>?_,h6⟩
 obtain⟨g,r,e,hg,c0,c1,c2,hE⟩:=h5 i x hx
 have hc:∀q,w'.cell? ⟨g,q,none⟩=w.cell? ⟨g,q,none⟩:=fun q=>zzi (hB.block g hg)
 exact⟨g,r,e,zzl hg hB.size,by rw[hc];exact c0,by rw[hc];exact c1,by rw[hc];exact c2,Ex.below hB _ _ _ hE⟩
theorem NwI.made {W1:World} {B Eb:Nat} {tr:Raw} {a:Option Addr} {len cap:Nat} {ng nc:Nat} {whole:ByteArray} {l:List SpecD} {gs:List Grp} {wr:World} {ev:Value} {rs:List Raw} {er:Raw} (h:NwI W1 B Eb tr (outTree whole) (.slice a len cap) (.slice (some ⟨ng,0,none⟩) (namesD l gs).length nc) (l.map (·.expr)) wr len ev rs er) (hl:Specs W1 a len l) (hG:Groups W1 (some ⟨ng,0,none⟩) (namesD l gs).length (namesD l gs)) (h0:firstE (whole::l.map (·.expr)) (namesD l gs)=0) (h15:len<=15):RSch wr B whole a len cap l gs:=by
 obtain⟨ea,ec,rfl⟩:=shape_owns h.own
 refine⟨tr,ea,ec,ng,nc,h.blk,ExA.ex _ _ _ h.whole,hl.below h.bel,hG.below h.bel,fun i x hx=>?_,h0,h15⟩
 have hil:i<len:=by have:=(zzc.1 hx).1;have:=hl.1;omega
 have hrl:=h.len
 obtain⟨r,hr⟩:∃r,rs[i]? = some r:=⟨_,zze (by omega)⟩
 obtain⟨g,c', e,hc⟩:=owns_cell h.own (by omega)
 injection e with e1
 obtain⟨c0,c1,c2⟩:=rawC_at rs i r hr
 exact⟨g,r,e1,(owns_lt h.own (g:=g) (by rw[e1];rfl)).1,hc _ _ c0,hc _ _ c1,hc _ _ c2,ExA.ex _ _ _ (h.trees i x.expr r (by rw[List.getElem?_map,hx];rfl) hr)⟩
theorem ready_run {P:Program} {md:Region.Mode} {ops:Array Oper} {Q:Exit->Act->World->Prop} {S:World->Prop} {fuel:Nat} {listed:Array Bool} {a:Act} {w:World} {i:Nat} {o:Oper} {rs:List Nat} (ho:ops[i]? = some o) (hg:o.guard=none) {w' : World} {v:Value} (hrun:∀K:Act->World->Prop,K (a.put o.dst v) w' -> Oper.wp P o a w K Q) (hS:S w') (hn:wpAnyH P md ops Q S fuel (listed.setIfInBounds i true) (a.put o.dst v) w') (hs:AllReadyH P md ops Q S fuel listed a w rs):AllReadyH P md ops Q S fuel listed a w (i::rs) :=
 AllReadyH.cons ho (fun K' hK=>by
  rw[if_pos (by simp[Region.wanted,hg])]
  exact hrun K' (hK.out _ _ hS (fun _=>hn))) hs
theorem run_store3 (w:World) (g o:Nat) (k:Int) (s:ByteArray) (a:Option Addr) (l c:Nat) (c0:∃u,w.cell? ⟨g,o,none⟩=some u) (f0:w.frozen? ⟨g,o,none⟩=false) (c1:∃u,(w.setCell ⟨g,o,none⟩ (.int .i64 k)).cell? ⟨g,o+1,none⟩=some u) (f1:(w.setCell ⟨g,o,none⟩ (.int .i64 k)).frozen? ⟨g,o+1,none⟩=false) (c2:∃u,((w.setCell ⟨g,o,none⟩ (.int .i64 k)).setCell ⟨g,o+1,none⟩ (.string s)).cell? ⟨g,o+2,none⟩=some u) (f2:((w.setCell ⟨g,o,none⟩ (.int .i64 k)).setCell ⟨g,o+1,none⟩ (.string s)).frozen? ⟨g,o+2,none⟩=false) :
  (storeVar 64 ⟨g,o,none⟩ (.agg #[.int .i64 k,.string s,.slice a l c])).run Tryz.prog w=.ok () (((w.setCell ⟨g,o,none⟩ (.int .i64 k)).setCell ⟨g,o+1,none⟩ (.string s)).setCell ⟨g,o+2,none⟩ (.slice a l c)):=by
 obtain⟨u0,c0⟩:=c0
 obtain⟨u1,c1⟩:=c1
 obtain⟨u2,c2⟩:=c2
 go_simp
theorem run_store1 (w:World) (g o:Nat) (a:Option Addr) (l c:Nat) (u:Value) (c0:w.cell? ⟨g,o,none⟩=some u) (f0:w.frozen? ⟨g,o,none⟩=false) :
  (storeVar 62 ⟨g,o,none⟩ (.slice a l c)).run Tryz.prog w=.ok () (w.setCell ⟨g,o,none⟩ (.slice a l c)):=by
 go_simp
theorem wp_store_run {P:Program} {o:Oper} {a:Act} {w w' : World} {K:Act->World->Prop} {Q:Exit->Act->World->Prop} (ty:TypeId) (x y:Operand) (ho:o.op=.store ty x y) (ad:Addr) (u:Value) (hx:a.eval x=.pointer (some ad)) (hy:a.eval y=u) (hr:(storeVar ty ad u).run P w=.ok () w') (h:K (a.put o.dst undef) w'):o.wp P a w K Q:=by
 unfold Oper.wp execOp
 simp only[ho,hx,hy,Instr.storeAt,Instr.sureAddr,Sem.run_bind,Sem.run_pure,Result.andThen_ok,hr]
 exact h
end Go.Proofs.YtmablhmpfcefnaaGreatDoor
