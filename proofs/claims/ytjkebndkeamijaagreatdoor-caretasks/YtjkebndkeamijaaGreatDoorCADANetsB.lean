/-
  PROVED HERE: the net as it lies in memory: a place more, a free way more, the types of a name.
-/
import Derived.Test.YtjkebndkeamijaaGreatDoorCADANetsA
import Derived.Test.YtjkebndkeamijaaGreatDoorCA16
set_option maxRecDepth 100000
set_option maxHeartbeats 1000000
namespace Go.Proofs.YtjkebndkeamijaaGreatDoor
open Go.RowKit
theorem hCl:(Tryz.prog.info? 61).map (fun i=>(i.zero,i.size,i.bytes))=some (some (.slice none 0 0),1,24):=by kernel_rfl
structure qD (w0 w:World) (Bn:Nat) (tv bv nv:Value) (ts bs:List Value) (tos:List (List Nat)) (bys:List (List Int)) (nxs:List Int):Prop where
 blk:w.heap[Bn]? = some (.cells #[tv,bv,nv] 153 (0,0))
 bge:w0.heap.size<=Bn
 trow:w.ownsRow w0.heap.size 61 1 tv tos.length ts
 brow:w.ownsRow w0.heap.size 61 1 bv bys.length bs
 nrow:w.ownsRow w0.heap.size 3 1 nv nxs.length (iG nxs)
 each:∀(i:Nat) (l:List Nat),tos[i]? = some l->∃v,ts[i]? = some v/\w.ownsRow w0.heap.size 3 1 v l.length (lU l)
 inj:∀(i j:Nat) (v v' : Value) (g:Nat),ts[i]? = some v->ts[j]? = some v' -> v.ownBlock=some g->v'.ownBlock=some g->i=j
 apart:∀(i:Nat) (v:Value) (g:Nat),ts[i]? = some v->v.ownBlock=some g->nv.ownBlock≠some g
 two:∀g,tv.ownBlock=some g->bv.ownBlock≠some g
 byr:∀(i:Nat) (l:List Int),bys[i]? = some l->∃a n c,bs[i]? = some (.slice a n c)/\kA w0 a n l
 bel:Below w0.heap.size w0 w
theorem qD.tlen {w0 w:World}{Bn:Nat}{tv bv nv:Value}{ts bs:List Value}{tos:List (List Nat)}{bys:List (List Int)}{nxs:List Int}(h:qD w0 w Bn tv bv nv ts bs tos bys nxs):ts.length=tos.length:=by have:=h.trow.1;omega
theorem qD.blen {w0 w:World}{Bn:Nat}{tv bv nv:Value}{ts bs:List Value}{tos:List (List Nat)}{bys:List (List Int)}{nxs:List Int}(h:qD w0 w Bn tv bv nv ts bs tos bys nxs):bs.length=bys.length:=by have:=h.brow.1;omega
theorem qD.row {w0 w:World}{Bn:Nat}{tv bv nv:Value}{ts bs:List Value}{tos:List (List Nat)}{bys:List (List Int)}{nxs:List Int}(h:qD w0 w Bn tv bv nv ts bs tos bys nxs){i:Nat}{v:Value}(hi:ts[i]? = some v):∃l,tos[i]? = some l/\w.ownsRow w0.heap.size 3 1 v l.length (lU l):=by
 have hlt:i<tos.length:=by have:=(zzc.1 hi).1;have:=h.tlen;omega
 obtain⟨v', h1,h2⟩:=h.each i _ (zze hlt)
 rw[hi] at h1
 cases h1
 exact⟨_,zze hlt,h2⟩
theorem kN {w:World}{g g' : Nat}{c c' : Array Value}{t t' : TypeId}{f f' : Nat×Nat}(h:w.heap[g]? = some (.cells c t f))(h' : w.heap[g']? = some (.cells c' t' f'))(ht:t≠t'):g≠g' := fun e=>by
 subst e
 rw[h] at h'
 cases h'
 exact ht rfl
theorem qD.lts {w0 w:World}{Bn:Nat}{tv bv nv:Value}{ts bs:List Value}{tos:List (List Nat)}{bys:List (List Int)}{nxs:List Int}(h:qD w0 w Bn tv bv nv ts bs tos bys nxs):Bn<w.heap.size:=(zza.1 h.blk).1
theorem qD.keep {w0 w w' : World}{Bn:Nat}{tv bv nv:Value}{ts bs:List Value}{tos:List (List Nat)}{bys:List (List Int)}{nxs:List Int}(h:qD w0 w Bn tv bv nv ts bs tos bys nxs)(hB:Below w.heap.size w w'):qD w0 w' Bn tv bv nv ts bs tos bys nxs:=by
 refine⟨(hB.block _ h.lts).trans h.blk,h.bge,gF h.trow fun g hg=>hB.block g (gC h.trow hg).1,gF h.brow fun g hg=>hB.block g (gC h.brow hg).1,gF h.nrow fun g hg=>hB.block g (gC h.nrow hg).1,fun i l hl=>?_,h.inj,h.apart,h.two,h.byr,h.bel.trans (hB.mono h.bel.size)⟩
 obtain⟨v,h1,h2⟩:=h.each i l hl
 exact⟨v,h1,gF h2 fun g hg=>hB.block g (gC h2 hg).1⟩
theorem sG {w2:World}{Bn j:Nat}{u:Value}{k:Nat}(hk:k≠Bn):(w2.setCell ⟨Bn,j,none⟩ u).heap[k]? = w2.heap[k]? := zzh w2 _ u k hk
theorem gKi {w:World}{Bn:Nat}{a b c:Value}(h:w.heap[Bn]? = some (.cells #[a,b,c] 153 (0,0)))(u:Value):(w.setCell ⟨Bn,0,none⟩ u).heap[Bn]? = some (.cells #[u,b,c] 153 (0,0))/\(w.setCell ⟨Bn,1,none⟩ u).heap[Bn]? = some (.cells #[a,u,c] 153 (0,0))/\(w.setCell ⟨Bn,2,none⟩ u).heap[Bn]? = some (.cells #[a,b,u] 153 (0,0)) :=
 ⟨heap_setCell_same w Bn 0 _ _ _ h,heap_setCell_same w Bn 1 _ _ _ h,heap_setCell_same w Bn 2 _ _ _ h⟩
theorem k155{p:Prop}(h:p:=by
  obtain⟨hlt,c,hc⟩:=gC h2 e;obtain⟨n1,n2⟩:=hintne g ⟨c,hc⟩;exact same g hlt n1 n2
  ):p:=h
theorem k153{p:Prop}(h:p:=by
  obtain⟨hlt,c,hc⟩:=gC h.nrow e;obtain⟨n1,n2⟩:=hintne g ⟨c,hc⟩;exact same g hlt n1 n2
  ):p:=h
theorem k149{p:Prop}(h:p:=by
  rcases hv with hv | hv
  ·exact .inl (by rw[<-hv];exact e)
  ·rw[hv] at e;cases e;exact .inr rfl
  ):p:=h
theorem qD.newT {w0 w w2:World}{Bn:Nat}{tv bv nv tv' : Value}{ts bs ts' : List Value}{tos tos' : List (List Nat)}{bys:List (List Int)}{nxs:List Int}(h:qD w0 w Bn tv bv nv ts bs tos bys nxs)(hg:w.grownBy w2 tv.ownBlock)(hrow:w2.ownsRow w0.heap.size 61 1 tv' tos'.length ts')(hv:tv'.ownBlock=tv.ownBlock\/tv'.ownBlock=some w.heap.size)
  (hts:ts' = ts++[.slice none 0 0]) (htos:tos' = tos++[[]]):qD w0 (w2.setCell ⟨Bn,0,none⟩ tv') Bn tv' bv nv ts' bs tos' bys nxs:=by
 have hTB:∀g,tv.ownBlock=some g->g≠Bn:=fun g e=>by obtain⟨_,c,hc⟩:=gC h.trow e;exact kN hc h.blk (by decide)
 have hge:∀g,tv.ownBlock=some g->w0.heap.size<=g:=fun g e=>iV h.trow e
 have hBn:=h.lts
 have hblk2:w2.heap[Bn]? = some (.cells #[tv,bv,nv] 153 (0,0)):=(hg.block _ hBn (fun e=>hTB _ e.symm rfl)).trans h.blk
 have same:∀k,k<w.heap.size->k≠Bn->tv.ownBlock≠some k->(w2.setCell ⟨Bn,0,none⟩ tv').heap[k]? = w.heap[k]? := fun k hk h1 h2=>(sG h1).trans (hg.block k hk (fun e=>h2 e.symm))
 have hintne:∀g,(∃c,w.heap[g]? = some (.cells c 3 (0,0)))->g≠Bn/\tv.ownBlock≠some g:=fun g ⟨c,hc⟩=>⟨kN hc h.blk (by decide),fun e=>by obtain⟨_,c', hc'⟩:=gC h.trow e;exact kN hc hc' (by decide) rfl⟩
 have hnew:∀g,tv'.ownBlock=some g->tv.ownBlock=some g\/g=w.heap.size:=fun g e=>by
  exact k149
 refine⟨(gKi hblk2 tv').1,h.bge,gF hrow fun g e=>sG (fun e' => ?_),gF h.brow fun g e=>?_,gF h.nrow fun g e=>?_,fun i l hl=>?_,fun i j v v' g hi hj e1 e2=>?_,fun i v g hi e=>?_,fun g e e2=>?_,h.byr,?_⟩
 ·subst e'
  rcases hnew _ e with e | e
  ·exact hTB _ e rfl
  ·omega
 ·obtain⟨hlt,c,hc⟩:=gC h.brow e
  exact same g hlt (kN hc h.blk (by decide)) (fun e' => h.two g e' e)
 ·exact k153
 ·subst hts htos
  rcases Nat.lt_or_ge i tos.length with hlt | hge
  ·rw[List.getElem?_append_left hlt] at hl
   obtain⟨v,h1,h2⟩:=h.each i l hl;refine⟨v,by rw[List.getElem?_append_left (by rw[h.tlen];exact hlt)];exact h1,gF h2 fun g e=>?_⟩;exact k155
  ·have:i=tos.length:=by
    have:=(zzc.1 hl).1
    simp at this;omega
   subst this;simp at hl;subst hl;exact⟨.slice none 0 0,by rw[<-h.tlen];simp,World.ownsRow_nil ..⟩
 ·subst hts
  have old:∀(i:Nat) (v:Value),(ts++[Value.slice none 0 0])[i]? = some v->∀g,v.ownBlock=some g->ts[i]? = some v:=fun i v hi g e=>by
   rcases Nat.lt_or_ge i ts.length with hlt | hge
   ·rwa [List.getElem?_append_left hlt] at hi
   ·have:i=ts.length:=by
     have:=(zzc.1 hi).1
     simp at this;omega
    subst this;simp at hi;subst hi;cases e
  exact h.inj i j v v' g (old i v hi g e1) (old j v' hj g e2) e1 e2
 ·subst hts
  rcases Nat.lt_or_ge i ts.length with hlt | hge
  ·rw[List.getElem?_append_left hlt] at hi
   exact h.apart i v g hi e
  ·have:i=ts.length:=by
    have:=(zzc.1 hi).1
    simp at this;omega
   subst this;simp at hi;subst hi;cases e
 ·rcases hnew _ e with e | e
  ·exact h.two g e e2
  ·have:=(gC h.brow e2).1
   omega
 ·exact(h.bel.grown hg h.bel.size hge).setCell h.bge _
theorem qD.newB {w0 w w2:World}{Bn:Nat}{tv bv nv bv' : Value}{ts bs bs' : List Value}{tos:List (List Nat)}{bys bys' : List (List Int)}{nxs:List Int}(h:qD w0 w Bn tv bv nv ts bs tos bys nxs)(hg:w.grownBy w2 bv.ownBlock)(hrow:w2.ownsRow w0.heap.size 61 1 bv' bys'.length bs')(hv:bv'.ownBlock=bv.ownBlock\/bv'.ownBlock=some w.heap.size)
  (hby:∀(i:Nat) (l:List Int),bys'[i]? = some l->∃a n c,bs'[i]? = some (.slice a n c)/\kA w0 a n l):qD w0 (w2.setCell ⟨Bn,1,none⟩ bv') Bn tv bv' nv ts bs' tos bys' nxs:=by
 have hTB:∀g,bv.ownBlock=some g->g≠Bn:=fun g e=>by obtain⟨_,c,hc⟩:=gC h.brow e;exact kN hc h.blk (by decide)
 have hge:∀g,bv.ownBlock=some g->w0.heap.size<=g:=fun g e=>iV h.brow e
 have hBn:=h.lts
 have hblk2:w2.heap[Bn]? = some (.cells #[tv,bv,nv] 153 (0,0)):=(hg.block _ hBn (fun e=>hTB _ e.symm rfl)).trans h.blk
 have same:∀k,k<w.heap.size->k≠Bn->bv.ownBlock≠some k->(w2.setCell ⟨Bn,1,none⟩ bv').heap[k]? = w.heap[k]? := fun k hk h1 h2=>(sG h1).trans (hg.block k hk (fun e=>h2 e.symm))
 have hintne:∀g,(∃c,w.heap[g]? = some (.cells c 3 (0,0)))->g≠Bn/\bv.ownBlock≠some g:=fun g ⟨c,hc⟩=>⟨kN hc h.blk (by decide),fun e=>by obtain⟨_,c', hc'⟩:=gC h.brow e;exact kN hc hc' (by decide) rfl⟩
 have hnew:∀g,bv'.ownBlock=some g->bv.ownBlock=some g\/g=w.heap.size:=fun g e=>by
  exact k149
 refine⟨(gKi hblk2 bv').2.1,h.bge,gF h.trow fun g e=>?_,gF hrow fun g e=>sG (fun e' => ?_),gF h.nrow fun g e=>?_,fun i l hl=>?_,h.inj,h.apart,fun g e e2=>?_,hby,(h.bel.grown hg h.bel.size hge).setCell h.bge _⟩
 ·obtain⟨hlt,c,hc⟩:=gC h.trow e
  exact same g hlt (kN hc h.blk (by decide)) (h.two g e)
 ·subst e'
  rcases hnew _ e with e | e
  ·exact hTB _ e rfl
  ·omega
 ·exact k153
 ·obtain⟨v,h1,h2⟩:=h.each i l hl
  refine⟨v,h1,gF h2 fun g e=>?_⟩;exact k155
 ·rcases hnew _ e2 with e2 | e2
  ·exact h.two g e e2
  ·have:=(gC h.trow e).1
   omega
theorem qD.newN {w0 w w2:World}{Bn:Nat}{tv bv nv nv' : Value}{ts bs:List Value}{tos:List (List Nat)}{bys:List (List Int)}{nxs nxs' : List Int}(h:qD w0 w Bn tv bv nv ts bs tos bys nxs)(hg:w.grownBy w2 nv.ownBlock)(hrow:w2.ownsRow w0.heap.size 3 1 nv' nxs'.length (iG nxs'))(hv:nv'.ownBlock=nv.ownBlock\/nv'.ownBlock=some w.heap.size):qD w0 (w2.setCell ⟨Bn,2,none⟩ nv') Bn tv bv nv' ts bs tos bys nxs' := by
 have hTB:∀g,nv.ownBlock=some g->g≠Bn:=fun g e=>by obtain⟨_,c,hc⟩:=gC h.nrow e;exact kN hc h.blk (by decide)
 have hge:∀g,nv.ownBlock=some g->w0.heap.size<=g:=fun g e=>iV h.nrow e
 have hBn:=h.lts
 have hblk2:w2.heap[Bn]? = some (.cells #[tv,bv,nv] 153 (0,0)):=(hg.block _ hBn (fun e=>hTB _ e.symm rfl)).trans h.blk
 have same:∀k,k<w.heap.size->k≠Bn->nv.ownBlock≠some k->(w2.setCell ⟨Bn,2,none⟩ nv').heap[k]? = w.heap[k]? := fun k hk h1 h2=>(sG h1).trans (hg.block k hk (fun e=>h2 e.symm))
 have hslne:∀g,(∃c,w.heap[g]? = some (.cells c 61 (0,0)))->g≠Bn/\nv.ownBlock≠some g:=fun g ⟨c,hc⟩=>⟨kN hc h.blk (by decide),fun e=>by obtain⟨_,c', hc'⟩:=gC h.nrow e;exact kN hc hc' (by decide) rfl⟩
 have hnew:∀g,nv'.ownBlock=some g->nv.ownBlock=some g\/g=w.heap.size:=fun g e=>by
  exact k149
 refine⟨(gKi hblk2 nv').2.2,h.bge,gF h.trow fun g e=>?_,gF h.brow fun g e=>?_,gF hrow fun g e=>sG (fun e' => ?_),fun i l hl=>?_,h.inj,fun i v g hi e e2=>?_,h.two,h.byr,(h.bel.grown hg h.bel.size hge).setCell h.bge _⟩
 ·obtain⟨hlt,c,hc⟩:=gC h.trow e
  obtain⟨n1,n2⟩:=hslne g ⟨c,hc⟩;exact same g hlt n1 n2
 ·obtain⟨hlt,c,hc⟩:=gC h.brow e
  obtain⟨n1,n2⟩:=hslne g ⟨c,hc⟩;exact same g hlt n1 n2
 ·subst e'
  rcases hnew _ e with e | e
  ·exact hTB _ e rfl
  ·omega
 ·obtain⟨v,h1,h2⟩:=h.each i l hl
  refine⟨v,h1,gF h2 fun g e=>?_⟩;obtain⟨hlt,c,hc⟩:=gC h2 e;exact same g hlt (kN hc h.blk (by decide)) (h.apart i v g h1 e)
 ·obtain⟨l,_,h2⟩:=h.row hi
  rcases hnew _ e2 with e2 | e2
  ·exact h.apart i v g hi e e2
  ·have:=(gC h2 e).1
   omega
structure gM (w w' : World):Prop where
 size:w.heap.size<=w'.heap.size
 same:∀(k:Nat) (c:Array Value) (t:TypeId) (f:Nat×Nat),w.heap[k]? = some (.cells c t f)->t≠153->t≠61->t≠3->w'.heap[k]? = w.heap[k]?
theorem gM.refl (w:World):gM w w:=⟨zzb _,fun _ _ _ _ _ _ _ _=>rfl⟩
theorem gM.trans {w w1 w2:World}(h1:gM w w1)(h2:gM w1 w2):gM w w2 :=
 ⟨Nat.le_trans h1.size h2.size,fun k c t f hk a b d=>(h2.same k c t f ((h1.same k c t f hk a b d).trans hk) a b d).trans (h1.same k c t f hk a b d)⟩
theorem gM.of_below {w w1:World}(h:Below w.heap.size w w1):gM w w1:=⟨h.size,fun k _ _ _ hk _ _ _=>h.block k (zza.1 hk).1⟩
theorem gM.grown {w w1:World}{base:Nat}{e:TypeId}{sz n:Nat}{v:Value}{xs:List Value}(h:w.ownsRow base e sz v n xs)(he:e=61\/e=3)(hg:w.grownBy w1 v.ownBlock):gM w w1 :=
 ⟨hg.size,fun k c t f hk _ b d=>hg.block k (zza.1 hk).1 (fun e' => by
  obtain⟨_,c', hc'⟩:=gC h e'.symm;rw[hk] at hc';cases hc';rcases he with he | he
  ·exact b he
  ·exact d he)⟩
theorem gM.set {w:World}{g j:Nat}{u:Value}{c:Array Value}{t:TypeId}{f:Nat×Nat}(h:w.heap[g]? = some (.cells c t f))(ht:t=153\/t=61\/t=3):gM w (w.setCell ⟨g,j,none⟩ u) :=
 ⟨by simp,fun k c' t' f' hk a b d=>zzh w _ u k (fun e=>by
  have e' : k=g:=e;subst e';rw[h] at hk;cases hk;rcases ht with ht | ht | ht
  ·exact a ht
  ·exact b ht
  ·exact d ht)⟩
end Go.Proofs.YtjkebndkeamijaaGreatDoor
/- NetPlace: the document's place at every net: one place more; nothing else is turned. -/
namespace Go.Proofs.YtjkebndkeamijaaGreatDoor
open Go.RowKit
def gW (w0 w:World)(Bn:Nat)(N:List gL):Prop:=∃tv bv nv ts bs,qD w0 w Bn tv bv nv ts bs (N.map (·.1)) (N.map (·.2.1)) (N.map (·.2.2))
theorem gW.keep {w0 w w' : World}{Bn:Nat}{N:List gL}(h:gW w0 w Bn N)(hB:Below w.heap.size w w'):gW w0 w' Bn N:=by
 obtain⟨tv,bv,nv,ts,bs,h⟩:=h
 exact⟨tv,bv,nv,ts,bs,h.keep hB⟩
theorem gW.bel {w0 w:World}{Bn:Nat}{N:List gL}(h:gW w0 w Bn N):Below w0.heap.size w0 w:=by
 obtain⟨tv,bv,nv,ts,bs,h⟩:=h
 exact h.bel
theorem tE {w:World}{B:Nat}{a b c:Value}{t:TypeId}(h:w.heap[B]? = some (.cells #[a,b,c] t (0,0))):w.cell? ⟨B,0,none⟩=some a/\w.cell? ⟨B,1,none⟩=some b/\w.cell? ⟨B,2,none⟩=some c/\w.frozen? ⟨B,0,none⟩=false/\w.frozen? ⟨B,1,none⟩=false/\w.frozen? ⟨B,2,none⟩=false:=by
 have hc:=fun j=>cell_of_row w B j _ _ _ h
 exact⟨hc 0,hc 1,hc 2,by simp[World.frozen?,h],by simp[World.frozen?,h],by simp[World.frozen?,h]⟩
theorem wI (w:World)(base:Nat)(v:Value)(n:Nat)(xs:List Value)(hown:w.ownsRow base 61 1 v n xs)(b:Nat)(hb:w.heap[b]? = some (.cells #[.slice none 0 0] 61 (0,0)))(h63:n+1<=1000000)(hbase:base<=w.heap.size) :
  ∃v' w', (Builtin.append_ #[151,151] 151 #[v,.slice (some ⟨b,0,none⟩) 1 1]).run Tryz.prog w=.ok v' w' /\ w'.ownsRow base 61 1 v' (n+1) (xs++[.slice none 0 0])/\w.grownBy w' v.ownBlock/\(v'.ownBlock=v.ownBlock\/v'.ownBlock=some w.heap.size):=by
 obtain⟨i0,hi,hz0,hz1,hz2⟩:=info_parts hCl
 obtain⟨v', w', hr,q1,q2,_,q3⟩:=run_append_own_at (P:=Tryz.prog) w base 151 151 61 i0 _ 1 24 Tryz.underlying151 hi hz0 hz1 hz2 rfl (by decide) v n _ hown ⟨b,0,none⟩ 1 1 [.slice none 0 0] rfl (fun j u hj=>by
  cases j with
  | zero=>simp at hj;subst hj;exact cell_of_row w b 0 _ _ _ hb
  | succ j=>simp at hj) (fun u hu=>by
  simp at hu;rw[hu]
  rfl) (by unfold maxLen;omega) oo hbase
 exact⟨v', w', hr,q1,q2,q3⟩
theorem wH (w:World)(base:Nat)(v:Value)(n:Nat)(xs:List Value)(hown:w.ownsRow base 3 1 v n xs)(b:Nat)(t:Int)(hb:w.heap[b]? = some (.cells #[.int .i64 t] 3 (0,0)))(h63:n+1<=1000000)(hbase:base<=w.heap.size) :
  ∃v' w', (Builtin.append_ #[61,61] 61 #[v,.slice (some ⟨b,0,none⟩) 1 1]).run Tryz.prog w=.ok v' w' /\ w'.ownsRow base 3 1 v' (n+1) (xs++[.int .i64 t])/\w.grownBy w' v.ownBlock/\(v'.ownBlock=v.ownBlock\/v'.ownBlock=some w.heap.size):=by
 obtain⟨i0,hi,hz0,hz1,hz2⟩:=info_parts gEu
 obtain⟨v', w', hr,q1,q2,_,q3⟩:=run_append_own_at (P:=Tryz.prog) w base 61 61 3 i0 _ 1 8 Tryz.underlying61 hi hz0 hz1 hz2 rfl (by decide) v n _ hown ⟨b,0,none⟩ 1 1 [.int .i64 t] rfl (fun j u hj=>by
  cases j with
  | zero=>simp at hj;subst hj;exact cell_of_row w b 0 _ _ _ hb
  | succ j=>simp at hj) (fun u hu=>by
  simp at hu;rw[hu]
  rfl) (by unfold maxLen;omega) oo hbase
 exact⟨v', w', hr,q1,q2,q3⟩
theorem lN (w0 w:World)(Bn:Nat)(N:List gL)(h:gW w0 w Bn N)(hl:N.length<=100000) :
  Calls Tryz.prog 111 #[.pointer (some ⟨Bn,0,none⟩)] w fun e w' => e=.returned (.int .i64 (N.length:Int))/\gW w0 w' Bn (gI N)/\gM w w' := by
 obtain⟨tv,bv,nv,ts,bs,h⟩:=h
 -- ways
 have h1:=h.keep ((zzd _ w).alloc (zzb _) (.cells #[.slice none 0 0] 61))
 obtain⟨tv', w1,r1,o1,g1,v1⟩:=wI _ w0.heap.size tv _ ts h1.trow w.heap.size (World.alloc_heap_new w _) (by rw[List.length_map];omega) h1.bel.size
 have hT:=h1.newT (tos' := N.map (·.1)++[[]]) g1 (by simpa using o1) v1 rfl rfl
 -- types
 obtain⟨w2,hw2⟩:∃w2,w2=w1.setCell ⟨Bn,0,none⟩ tv' := ⟨_,rfl⟩
 rw[<-hw2] at hT
 have h2:=hT.keep ((zzd _ w2).alloc (zzb _) (.cells #[.slice none 0 0] 61))
 obtain⟨bv', w3,r2,o2,g2,v2⟩:=wI _ w0.heap.size bv _ bs h2.brow w2.heap.size (World.alloc_heap_new w2 _) (by rw[List.length_map];omega) h2.bel.size
 have hB:=h2.newB (bys' := N.map (·.2.1)++[[]]) g2 (by simpa using o2) v2 (fun i l hl=>by
  rcases Nat.lt_or_ge i (N.map (·.2.1)).length with hlt | hge
  ·rw[List.getElem?_append_left hlt] at hl
   obtain⟨a,n,c,e1,e2⟩:=h2.byr i l hl;exact⟨a,n,c,by rw[List.getElem?_append_left (by rw[h2.blen];exact hlt)];exact e1,e2⟩
  ·have hi:i=(N.map (·.2.1)).length:=by
    have:=(zzc.1 hl).1
    rw[List.length_append,List.length_singleton] at this;omega
   subst hi;rw[List.getElem?_append_right (zzb _),Nat.sub_self] at hl;cases hl;refine⟨none,0,0,?_,rfl,oo,.inl rfl⟩;rw[<-h2.blen,List.getElem?_append_right (zzb _),Nat.sub_self]
   rfl)
 -- numbers
 obtain⟨w4,hw4⟩:∃w4,w4=w3.setCell ⟨Bn,1,none⟩ bv' := ⟨_,rfl⟩
 rw[<-hw4] at hB
 have h3:=hB.keep ((zzd _ w4).alloc (zzb _) (.cells #[.int .i64 (-1)] 3))
 obtain⟨nv', w5,r3,o3,g3,v3⟩:=wH _ w0.heap.size nv _ _ h3.nrow w4.heap.size (-1) (World.alloc_heap_new w4 _) (by rw[List.length_map];omega) h3.bel.size
 have hN:=h3.newN (nxs' := N.map (·.2.2)++[-1]) g3 (by simpa [iG] using o3) v3
 have hb1:=(g1.block _ h1.lts (fun e=>by obtain⟨_,c,hc⟩:=gC h1.trow e.symm;exact kN hc h1.blk (by decide) rfl)).trans h1.blk
 have hb2:=(g2.block _ h2.lts (fun e=>by obtain⟨_,c,hc⟩:=gC h2.brow e.symm;exact kN hc h2.blk (by decide) rfl)).trans h2.blk
 have hb3:=(g3.block _ h3.lts (fun e=>by obtain⟨_,c,hc⟩:=gC h3.nrow e.symm;exact kN hc h3.blk (by decide) rfl)).trans h3.blk
 have k1:gM w w2:=by
  rw[hw2];exact((gM.of_below ((zzd _ w).alloc (zzb _) _)).trans (gM.grown h1.trow (.inl rfl) g1)).trans (gM.set hb1 (.inl rfl))
 have k2:gM w2 w4:=by
  rw[hw4];exact((gM.of_below ((zzd _ w2).alloc (zzb _) _)).trans (gM.grown h2.brow (.inl rfl) g2)).trans (gM.set hb2 (.inl rfl))
 have k3:gM w4 (w5.setCell ⟨Bn,2,none⟩ nv'):=((gM.of_below ((zzd _ w4).alloc (zzb _) _)).trans (gM.grown h3.nrow (.inr rfl) g3)).trans (gM.set hb3 (.inl rfl))
 have HE:Hid (gW w0 (w5.setCell ⟨Bn,2,none⟩ nv') Bn (gI N)/\gM w (w5.setCell ⟨Bn,2,none⟩ nv')):=by
  refine⟨?_,(k1.trans k2).trans k3⟩;refine⟨tv', bv', nv', ts++[.slice none 0 0],bs++[.slice none 0 0],?_⟩;unfold gI oU;simpa using hN
 have hD:=tE ((g1.block _ h1.lts (fun e=>by obtain⟨_,c,hc⟩:=gC h1.trow e.symm;exact kN hc h1.blk (by decide) rfl)).trans h1.blk)
 have hP:=tE ((g2.block _ h2.lts (fun e=>by obtain⟨_,c,hc⟩:=gC h2.brow e.symm;exact kN hc h2.blk (by decide) rfl)).trans h2.blk)
 have hQ:=tE ((g3.block _ h3.lts (fun e=>by obtain⟨_,c,hc⟩:=gC h3.nrow e.symm;exact kN hc h3.blk (by decide) rfl)).trans h3.blk)
 have HD:Hid (w1.cell? ⟨Bn,0,none⟩=some tv/\w1.cell? ⟨Bn,1,none⟩=some bv/\w1.cell? ⟨Bn,2,none⟩=some nv/\w1.frozen? ⟨Bn,0,none⟩=false):=⟨hD.1,hD.2.1,hD.2.2.1,hD.2.2.2.1⟩
 have hE:=tE hT.blk
 have HE2:Hid (w2.cell? ⟨Bn,1,none⟩=some bv/\Bn<w2.heap.size):=⟨hE.2.1,hT.lts⟩
 have HP:Hid (w3.cell? ⟨Bn,1,none⟩=some bv/\w3.frozen? ⟨Bn,1,none⟩=false/\w3.cell? ⟨Bn,2,none⟩=some nv):=⟨hP.2.1,hP.2.2.2.2.1,hP.2.2.1⟩
 have hF:=tE hB.blk
 have HF4:Hid (w4.cell? ⟨Bn,2,none⟩=some nv/\Bn<w4.heap.size):=⟨hF.2.2.1,hB.lts⟩
 have HQ:Hid (w5.cell? ⟨Bn,2,none⟩=some nv/\w5.frozen? ⟨Bn,2,none⟩=false):=⟨hQ.2.2.1,hQ.2.2.2.2.2⟩
 have hU:=tE hN.blk
 obtain⟨ga,gc,hnv⟩:∃ga gc,nv' = .slice (some ⟨ga,0,none⟩) (N.length+1) gc:=by
  obtain⟨g,c,e,_⟩:=gY o3 oo;rw[List.length_map] at e;exact⟨g,c,e⟩
 obtain⟨ta,tc,htv⟩:∃ga gc,tv' = .slice (some ⟨ga,0,none⟩) (N.length+1) gc:=by
  obtain⟨g,c,e,_⟩:=gY o1 oo;rw[List.length_map] at e;exact⟨g,c,e⟩
 obtain⟨ba,bc,hbv⟩:∃ga gc,bv' = .slice (some ⟨ga,0,none⟩) (N.length+1) gc:=by
  obtain⟨g,c,e,_⟩:=gY o2 oo;rw[List.length_map] at e;exact⟨g,c,e⟩
 have HU:Hid ((w5.setCell ⟨Bn,2,none⟩ nv').cell? ⟨Bn,2,none⟩=some nv'):=hU.2.2.1
 have hli:(N.length:Int)+1<=100001:=by omega
 have HW2:Hid (w1.setCell ⟨Bn,0,none⟩ tv' = w2):=hw2.symm
 have HW4:Hid (w3.setCell ⟨Bn,1,none⟩ bv' = w4):=hw4.symm
 obtain⟨a0,_,_,_,_,_⟩:=tE h.blk
 have hBn:=h.lts
 rw[show w2.heap.size=w1.heap.size by rw[hw2];simp] at r2
 rw[show w4.heap.size=w3.heap.size by rw[hw4];simp] at r3
 have R2:Hid _:=r2
 have R3:Hid _:=r3
 clear k1 k2 k3 hb1 hb2 hb3 hw2 hw4 h h1 h2 h3 hT hB hN o1 o2 o3 g1 g2 g3 v1 v2 v3 hD hP hQ hE hF hU r2 r3
 subst hnv htv hbv
 go_enter Tryz.func111,Tryz.ntmps111
 go_wp2_with (first
  | (at_builtin;rw[HW4.out];refine iW rfl (.tmp 25) (.tmp 26) 61 rfl _ _ _ w5 rfl rfl R3.out ?_;obtain⟨d6,d7⟩:=HQ.out;have d8:=HU.out)
  | (at_builtin;rw[HW2.out];refine iW rfl (.tmp 16) (.tmp 17) 151 rfl _ _ _ w3 rfl rfl R2.out ?_;obtain⟨d4,d5,e2⟩:=HP.out)
  | (at_builtin;refine iW rfl (.tmp 7) (.tmp 8) 151 rfl _ _ _ w1 rfl rfl r1 ?_;obtain⟨d0,d1,d2,d3⟩:=HD.out)
  | fail)
 go_ret
 exact⟨by simp,HE.out⟩
end Go.Proofs.YtjkebndkeamijaaGreatDoor
/- NetFree: the document's free at every net: one way more; nothing else is turned. -/
namespace Go.Proofs.YtjkebndkeamijaaGreatDoor
open Go.RowKit
theorem sH {w:World}{base:Nat}{e:TypeId}{sz g n cap:Nat}{xs:List Value}(h:w.ownsRow base e sz (.slice (some ⟨g,0,none⟩) n cap) n xs)(k:Nat)(u:Value):(w.setCell ⟨g,k,none⟩ u).ownsRow base e sz (.slice (some ⟨g,0,none⟩) n cap) n (xs.set k u):=by
 exact k53
theorem pI {w:World}{base:Nat}{e:TypeId}{sz:Nat}{v:Value}{n:Nat}{xs:List Value}(h:w.ownsRow base e sz v n xs):∃a c,v=.slice a n c:=by
 rcases h.2 with ⟨e,hn⟩ | ⟨g,cap,cur,e,_⟩
 ·exact⟨none,0,by rw[e,hn]⟩
 ·exact⟨_,_,e⟩
theorem wF {α:Type}{l:List α}{i j:Nat}{u x:α}(h:(l.set i u)[j]? = some x):(j=i/\x=u/\i<l.length)\/(j≠i/\l[j]? = some x):=by
 rw[List.getElem?_set] at h
 split at h
 ·rename_i e
  split at h
  ·cases h;exact .inl ⟨e.symm,rfl,oo⟩
  ·cases h
 ·rename_i e
  exact .inr ⟨fun e' => e e'.symm,h⟩
theorem qD.way {w0 w w1:World}{Bn g n c:Nat}{bv nv v v' : Value}{ts bs:List Value}{tos:List (List Nat)}{bys:List (List Int)}{nxs:List Int}(h:qD w0 w Bn (.slice (some ⟨g,0,none⟩) n c) bv nv ts bs tos bys nxs){a b:Nat}{l:List Nat}(hl:tos[a]? = some l)(hv:ts[a]? = some v)(hg:w.grownBy w1 v.ownBlock)(hrow:w1.ownsRow w0.heap.size 3 1 v' (l.length+1) (lU l++[.int .i64 (b:Int)]))(hvb:v'.ownBlock=v.ownBlock\/v'.ownBlock=some w.heap.size) :
  qD w0 (w1.setCell ⟨g,a,none⟩ v') Bn (.slice (some ⟨g,0,none⟩) n c) bv nv (ts.set a v') bs (tos.set a (l++[b])) bys nxs:=by
 obtain⟨l0,hl0,hown⟩:=h.row hv
 rw[hl] at hl0
 cases hl0
 have hn:n=tos.length:=by
  obtain⟨a', c', e⟩:=pI h.trow;injection e
 obtain⟨hglt,cur,hcur⟩:=gC h.trow (g:=g) rfl
 have hBn:=h.lts
 have hge:∀k,v.ownBlock=some k->w0.heap.size<=k:=fun k e=>iV hown e
 have hvi:∀k,v.ownBlock=some k->∃cc,w.heap[k]? = some (.cells cc 3 (0,0)):=fun k e=>(gC hown e).2
 have hnew:∀k,v'.ownBlock=some k->v.ownBlock=some k\/k=w.heap.size:=fun k e=>by
  rcases hvb with hv | hv
  ·exact .inl (by rw[<-hv];exact e)
  ·rw[hv] at e;cases e;exact .inr rfl
 have same:∀k,k<w.heap.size->k≠g->v.ownBlock≠some k->(w1.setCell ⟨g,a,none⟩ v').heap[k]? = w.heap[k]? := fun k hk h1 h2=>(zzh w1 _ v' k h1).trans (hg.block k hk (fun e=>h2 e.symm))
 have hg1:w1.heap[g]? = w.heap[g]? := hg.block g hglt (fun e=>by obtain⟨cc,hcc⟩:=hvi g e.symm;exact kN hcc hcur (by decide) rfl)
 have hgB:g≠Bn:=kN hcur h.blk (by decide)
 have htrow1:w1.ownsRow w0.heap.size 61 1 (.slice (some ⟨g,0,none⟩) n c) tos.length ts:=gF h.trow fun k e=>by cases e;exact hg1
 subst hn
 refine⟨(same Bn hBn (Ne.symm hgB) (fun e=>by obtain⟨cc,hcc⟩:=hvi Bn e;exact kN hcc h.blk (by decide) rfl)).trans h.blk,h.bge,?_,gF h.brow fun k e=>?_,gF h.nrow fun k e=>?_,fun i m hm=>?_,fun i j x y k hi hj e1 e2=>?_,fun i x k hi e e2=>?_,fun k e=>h.two k e,h.byr,?_⟩
 ·have:=sH htrow1 a v'
  rwa [List.length_set]
 ·obtain⟨hlt,cc,hcc⟩:=gC h.brow e
  exact same k hlt (fun e' => by subst e';exact h.two k rfl e) (fun e' => by obtain⟨c2,hc2⟩:=hvi k e';exact kN hc2 hcc (by decide) rfl)
 ·obtain⟨hlt,cc,hcc⟩:=gC h.nrow e
  exact same k hlt (fun e' => by subst e';exact kN hcc hcur (by decide) rfl) (fun e' => h.apart a v k hv e' e)
 ·rcases wF hm with ⟨rfl,rfl,hlt⟩ | ⟨hne,hm⟩
  ·refine⟨v', by rw[List.getElem?_set_self (by rw[h.tlen];exact hlt)],?_⟩
   rw[List.length_append,gAx];(refine gF hrow fun k e=>zzh w1 _ v' k (fun e' => ?_));have e'' : k=g:=e';subst e'';rcases hnew _ e with e | e
   ·obtain⟨c2,hc2⟩:=hvi _ e;exact kN hc2 hcur (by decide) rfl
   ·omega
  ·obtain⟨x,h1,h2⟩:=h.each i m hm
   refine⟨x,by rw[List.getElem?_set_ne (Ne.symm hne)];exact h1,gF h2 fun k e=>?_⟩;obtain⟨hlt,cc,hcc⟩:=gC h2 e;exact same k hlt (fun e' => by subst e';exact kN hcc hcur (by decide) rfl) (fun e' => hne (h.inj i a x v k h1 hv e e'))
 ·rcases wF hi with ⟨ei,ex,_⟩ | ⟨hni,hi'⟩
  ·rcases wF hj with ⟨ej,ey,_⟩ | ⟨hnj,hj'⟩
   ·omega
   ·exfalso
    obtain⟨l2,_,h2⟩:=h.row hj';rw[ex] at e1;rcases hnew _ e1 with e1 | e1
    ·exact hnj (h.inj j a y v k hj' hv e2 e1)
    ·have:=(gC h2 e2).1;omega
  ·rcases wF hj with ⟨ej,ey,_⟩ | ⟨hnj,hj'⟩
   ·exfalso
    obtain⟨l2,_,h2⟩:=h.row hi';rw[ey] at e2;rcases hnew _ e2 with e2 | e2
    ·exact hni (h.inj i a x v k hi' hv e1 e2)
    ·have:=(gC h2 e1).1;omega
   ·exact h.inj i j x y k hi' hj' e1 e2
 ·rcases wF hi with ⟨rfl,rfl,_⟩ | ⟨hni,hi⟩
  ·rcases hnew _ e with e | e
   ·exact h.apart i v k hv e e2
   ·have:=(gC h.nrow e2).1;omega
  ·exact h.apart i x k hi e e2
 ·exact(h.bel.grown hg h.bel.size hge).setCell (iV h.trow (g:=g) rfl) _
theorem vK {N:List gL}{a:Nat}{x:gL}{f:gL->gL}(h:N[a]? = some x):N.modify a f=N.set a (f x):=by
 apply List.ext_getElem?
 intro j
 rw[List.getElem?_modify,List.getElem?_set]
 by_cases e:a=j
 ·subst e
  obtain⟨hlt,he⟩:=zzc.1 h;simp[hlt,he]
 ·simp[e]
theorem gFm {α:Type}{l:List α}{i:Nat}{x:α}(h:l[i]? = some x):l.set i x=l:=by
 apply List.ext_getElem?
 intro j
 rw[List.getElem?_set]
 split
 ·rename_i e
  subst e;rw[if_pos (zzc.1 h).1,h]
 ·rfl
theorem gYc {N:List gL}{a b:Nat}{x:gL}(h:N[a]? = some x):(iT N a b).map (·.1)=(N.map (·.1)).set a (x.1++[b])/\(iT N a b).map (·.2.1)=N.map (·.2.1)/\(iT N a b).map (·.2.2)=N.map (·.2.2):=by
 unfold iT
 rw[vK h]
 refine⟨by rw[List.map_set],?_,?_⟩
 ·rw[List.map_set];exact gFm (by rw[List.getElem?_map,h];rfl)
 ·rw[List.map_set];exact gFm (by rw[List.getElem?_map,h];rfl)
theorem k22{p:Prop}(h:p:=by
  rw[if_pos (by rfl)];go_simp;refine hK.out _ _ hS2 (fun _=>?_);clear hK K
  try simp only[gQ]
  refine gT 14 kr rfl (fun K hK=>?_);rw[if_pos (by rfl)];refine nS _ _ 61 rfl _ _ _ w1 rfl rfl R1.out ?_
  try simp only[Act.put,List.setIfInBounds_toArray]
  refine hK.out _ _ HB1.out (fun _=>?_);clear hK K
  try simp only[gQ]
  refine jQ 15 (some 21) (v:=?_) HB1.out ?_ ?_
  rotate_left
  ·intro w hSw
   go_simp
   with_reducible rfl
  try simp only[Act.put]
  refine gT 16 kr rfl (fun K hK=>?_);rw[if_pos (by rfl)];go_simp;refine hK.out _ _ HS4.out (fun _=>?_);clear hK K
  try simp only[gQ]
  refine wpAnyH_done kr ?_ _;go_wp2
  go_end0
  exact⟨rfl,HE.out⟩
  ):p:=h
theorem oK (w0 w:World)(Bn:Nat)(N:List gL)(a b:Nat)(h:gW w0 w Bn N)(ha:a<N.length)(hl:N.length<=100000)(hf:lW 100000 N) :
  Calls Tryz.prog 140 #[.pointer (some ⟨Bn,0,none⟩),.int .i64 (a:Int),.int .i64 (b:Int)] w fun e w' => e=.returned (.tuple #[])/\gW w0 w' Bn (iT N a b)/\gM w w' := by
 obtain⟨tv,bv,nv,ts,bs,h⟩:=h
 obtain⟨x,hx⟩:∃x,N[a]? = some x:=⟨_,zze ha⟩
 have hx1:(N.map (·.1))[a]? = some x.1:=by rw[List.getElem?_map,hx];rfl
 obtain⟨v,hv,hown⟩:=h.each a x.1 hx1
 obtain⟨g,c,htv,hcell⟩:=gY h.trow (by rw[List.length_map];omega)
 rw[List.length_map] at htv
 subst htv
 have cga:=hcell a v hv
 obtain⟨c0,_,_,_,_,_⟩:=tE h.blk
 have hD:=(zzd w.heap.size w).drew.alloc (zzb _) (.cells #[.int .i64 (b:Int)] 3)
 have hW:=h.keep hD
 obtain⟨_,_,hownW⟩:=hW.row hv
 have hfew:=hf a x hx
 obtain⟨v', w1,r1,o1,g1,vb⟩:=wH _ w0.heap.size v x.1.length _ (gF hown fun k e=>hD.block k (gC hown e).1) w.heap.size (b:Int) (World.alloc_heap_new w.drew _) oo hW.bel.size
 have hN:=hW.way hx1 hv g1 o1 vb
 obtain⟨m1,m2,m3⟩:=gYc (b:=b) hx
 have hgw1:∃cur,w1.heap[g]? = some (.cells cur 61 (0,0)):=by
  obtain⟨hglt,cur,hcur⟩:=gC h.trow (g:=g) rfl;(have hgv:v.ownBlock≠some g:=fun e=>by obtain⟨_,cc,hcc⟩:=gC hown e;exact kN hcc hcur (by decide) rfl);exact⟨cur,((g1.block g (by have:=hD.size;omega) (fun e=>hgv e.symm)).trans (hD.block g hglt)).trans hcur⟩
 have HE:Hid (gW w0 (w1.setCell ⟨g,a,none⟩ v') Bn (iT N a b)/\gM w (w1.setCell ⟨g,a,none⟩ v')):=by
  refine⟨?_,((gM.of_below hD).trans (gM.grown (gF hown fun k e=>hD.block k (gC hown e).1) (.inr rfl) g1)).trans (gM.set hgw1.choose_spec (.inr (.inl rfl)))⟩;refine⟨.slice (some ⟨g,0,none⟩) N.length c,bv,nv,ts.set a v', bs,?_⟩;rw[m1,m2,m3];exact hN
 obtain⟨hglt,cur,hcur⟩:=gC h.trow (g:=g) rfl
 have hgv:v.ownBlock≠some g:=fun e=>by obtain⟨_,cc,hcc⟩:=gC hown e;exact kN hcc hcur (by decide) rfl
 have hBv:v.ownBlock≠some Bn:=fun e=>by obtain⟨_,cc,hcc⟩:=gC hown e;exact kN hcc h.blk (by decide) rfl
 have hg1:w1.heap[g]? = w.heap[g]? := (g1.block g (by have:=hD.size;omega) (fun e=>hgv e.symm)).trans (hD.block g hglt)
 have hB1:w1.heap[Bn]? = w.heap[Bn]? := (g1.block Bn (by have:=hD.size;have:=h.lts;omega) (fun e=>hBv e.symm)).trans (hD.block Bn h.lts)
 have cga1:w1.cell? ⟨g,a,none⟩=some v:=(zzi (w:=w) (a:=⟨g,a,none⟩) hg1).trans cga
 have fga1:w1.frozen? ⟨g,a,none⟩=false:=by simp[World.frozen?,hg1,hcur]
 have HB1:Hid (w1.cell? ⟨Bn,0,none⟩=some (.slice (some ⟨g,0,none⟩) N.length c)):=(zzi (w:=w) (a:=⟨Bn,0,none⟩) hB1).trans c0
 have hgB:g≠Bn:=kN hcur h.blk (by decide)
 obtain⟨sa,sc,rfl⟩:=pI hown
 obtain⟨ra,rc,rfl⟩:=pI o1
 have hai:(a:Int)<(N.length:Int):=by omega
 have ha0:(0:Int)<=(a:Int):=by omega
 have hBlt:=h.lts
 have HS4:Hid ((w1.setCell ⟨g,a,none⟩ (.slice ra (x.1.length+1) rc)).cell? ⟨Bn,0,none⟩=some (.slice (some ⟨g,0,none⟩) N.length c)):=(zzi (w:=w1) (a:=⟨Bn,0,none⟩) (zzh w1 _ _ Bn (Ne.symm hgB))).trans HB1.out
 have R1:Hid _:=r1
 clear hgw1 h hown hcell hW hownW o1 g1 vb hN m1 m2 m3 hx hx1 hv hD hg1 hB1 hcur hgv hBv hfew hf r1
 go_enter Tryz.func140,Tryz.ntmps140
 go_wp2_with fail
 refine wp_region_held_drew (S:=fun X=>X.cell? ⟨Bn,0,none⟩=some (.slice (some ⟨g,0,none⟩) N.length c)) hmx c0 (fun hS=>?_)
 refine gA 0 (some 6) hS ?_
 refine gA 1 (some 7) hS ?_
 refine gA 2 (some 8) hS ?_
 refine gA 3 (some 9) hS ?_ (hy:=by intro w hSw;have c0:=hSw;go_simp;with_reducible rfl)
 refine gA 4 (some 10) hS ?_
 refine gA 5 (some 11) hS ?_
 refine gA 6 (some 12) hS ?_
 refine gA 7 (some 13) hS ?_
 refine gA 8 (some 14) hS ?_ (hy:=by intro w hSw;have c0:=hSw;go_simp;with_reducible rfl)
 refine gA 9 (some 15) hS ?_
 refine gA 10 (some 16) hS ?_
 refine gA 12 (some 18) hS ?_
 have hS2:(w.drew.alloc (.cells #[.int .i64 (b:Int)] 3)).cell? ⟨Bn,0,none⟩=some (.slice (some ⟨g,0,none⟩) N.length c):=(World.cell?_alloc_lt w.drew (.cells #[.int .i64 (b:Int)] 3) ⟨Bn,0,none⟩ hBlt).trans hS
 refine wpAnyH_ready (rs:=[11,13]) kr (by simp) (AllReadyH.cons rfl (fun K hK=>?_) (AllReadyH.cons rfl (fun K hK=>?_) AllReadyH.nil))
 ·rw[if_pos (by rfl)]
  go_simp;refine hK.out _ _ hS (fun _=>?_);clear hK K
  try simp only[gQ]
  refine gT 13 kr rfl (fun K hK=>?_);exact k22
 ·rw[if_pos (by rfl)]
  go_simp;refine hK.out _ _ hS2 (fun _=>?_);clear hK K
  try simp only[gQ]
  refine gT 11 kr rfl (fun K hK=>?_);exact k22
end Go.Proofs.YtjkebndkeamijaaGreatDoor
/- NetTypes: the document's types of a name; what they have to do with the bits of a name. -/
namespace Go.Proofs.YtjkebndkeamijaaGreatDoor
open Go.RowKit
def tyG:List Grp->ByteArray->List Int
 | [],_=>[]
 | g::r,s=>if (g.1.toList==s.toList)=true then g.2 else tyG r s
theorem hGe:∀(gs:List Grp) (s:ByteArray) (i:Nat) (g:Grp),gs[i]? = some g->(∀x∈gs.take i,(x.1.toList==s.toList)=false)->(g.1.toList==s.toList)=true->tyG gs s=g.2:=by
 intro gs
 induction gs with
 | nil=>intro s i g h;simp at h
 | cons y r ih=>
  intro s i g h hn he;rw[tyG];cases i with
  | zero=>
   simp at h;subst h;rw[if_pos he]
  | succ i=>
   have h0:=hn y (by simp);rw[if_neg (by rw[h0];simp)];exact ih s i g (by simpa using h) (fun x hx=>hn x (by simp[hx])) he
theorem gZl (s:ByteArray):∀(gs:List Grp),(∀x∈gs,(x.1.toList==s.toList)=false)->tyG gs s=[]:=by
 intro gs
 induction gs with
 | nil=>intro _;rfl
 | cons y r ih=>
  intro h;rw[tyG,if_neg (by rw[h y (zzg ..)];simp)];exact ih fun x hx=>h x (zzk _ hx)
theorem gOp:∀(l:List Int),(∀x∈l,0<=x/\x<16)->∀j:Nat,(pK l).testBit j=true↔(j:Int)∈l:=by
 intro l
 have gen:∀(l:List Int) (m:Nat),(∀x∈l,0<=x/\x<16)->∀j:Nat,(l.foldl (fun m t=>m ||| 2 ^ t.toNat) m).testBit j=true↔(m.testBit j=true\/(j:Int)∈l):=by
  intro l
  induction l with
  | nil=>intro m _ j;simp
  | cons x r ih=>
   intro m h j;obtain⟨h0,h1⟩:=h x (zzg ..);rw[List.foldl_cons,ih _ (fun y hy=>h y (zzk _ hy)),Nat.testBit_or,Bool.or_eq_true,Nat.testBit_two_pow];simp only[decide_eq_true_eq,List.mem_cons]
   constructor
   ·rintro ((a | a) | a)
    ·exact .inl a
    ·exact .inr (.inl oo)
    ·exact .inr (.inr a)
   ·rintro (a | a | a)
    ·exact .inl (.inl a)
    ·exact .inl (.inr oo)
    ·exact .inr a
 intro h j
 have:=gen l 0 h j
 unfold pK
 rw[this]
 simp
theorem gFb {gs:List Grp}(hr:kB gs=true)(s:ByteArray)(x:Int):mW (kD gs s) x=true↔x∈tyG gs s:=by
 unfold kB at hr
 rw[Bool.and_eq_true] at hr
 have hr2:=List.all_eq_true.1 hr.2
 clear hr
 induction gs with
 | nil=>simp[kD,tyG,sQ]
 | cons g r ih=>
  rw[kD,tyG]
  split
  ·have hg:=hr2 g (zzg ..)
   unfold jO at hg;rw[Bool.and_eq_true] at hg
   have hty:∀y∈g.2,0<=y/\y<16:=fun y hy=>by
    have:=List.all_eq_true.1 hg.2 y hy
    unfold qM at this;simpa using this
   unfold mW;simp only[Bool.and_eq_true,decide_eq_true_eq]
   constructor
   ·rintro⟨⟨h1,h2⟩,h3⟩
    have:=(gOp g.2 hty x.toNat).1 h3
    rwa [show ((x.toNat:Nat):Int)=x by omega] at this
   ·intro hx
    obtain⟨h1,h2⟩:=hty x hx;refine⟨⟨h1,h2⟩,(gOp g.2 hty x.toNat).2 ?_⟩;rwa [show ((x.toNat:Nat):Int)=x by omega]
  ·exact ih fun y hy=>hr2 y (zzk _ hy)
theorem gMq {gs:List Grp}(hr:kB gs=true)(s:ByteArray):kD gs s=0↔tyG gs s=[]:=by
 constructor
 ·intro h
  cases ht:tyG gs s with
  | nil=>rfl
  | cons x r=>
   have:=(gFb hr s x).2 (by rw[ht];exact zzg ..)
   rw[h,sQ] at this;cases this
 ·intro h
  apply Nat.eq_of_testBit_eq;intro j;rw[Nat.zero_testBit];cases hb:(kD gs s).testBit j with
  | false=>rfl
  | true=>
   have hj:j<16:=by
    rcases Nat.lt_or_ge j 16 with e | e
    ·exact e
    ·have h1:=gOr gs hr s
     have h2:=Nat.ge_two_pow_of_testBit hb;have h3:2 ^ 16<=2 ^ j:=Nat.pow_le_pow_right (by decide) e;omega
   have:=(gFb hr s (j:Int)).1 (by unfold mW;simp;exact⟨oo,hb⟩)
   rw[h] at this;cases this
theorem gDb (s:ByteArray)(a:Option Addr)(len cap:Nat)(gs:List Grp)(w0 w:World)(h:iS w0 a len gs)(hB0:Below w0.heap.size w0 w) :
  Calls Tryz.prog 139 #[.slice a len cap,.string s] w fun e w' => ∃a' n c,e=.returned (.slice a' n c)/\kA w0 a' n (tyG gs s)/\w' = w:=by
 obtain⟨hl,hz,_⟩:=id h
 obtain⟨R,hR⟩:∃R,tyG gs s=R:=⟨_,rfl⟩
 rw[hR]
 have HR:Hid (tyG gs s=R):=hR
 clear hR
 have hzi:(len:Int)<=9223372036854775807:=by omega
 go_enter Tryz.func139,Tryz.ntmps139
 go_wp2
 go_loop [5] (fun i=>∃j:Nat,j<=len/\i=.int .i64 (j:Int)/\(∀x∈gs.take j,(x.1.toList==s.toList)=false)) (fun i=>len - (intOf i).toNat)
 case atStart=>exact⟨0,oo,rfl,by simp⟩
 case round=>
  obtain⟨i,hi,rfl,hT⟩:=hrel
  by_cases hlt:i<len
  ·obtain⟨b,o,g,a', len', cap', rfl,hg,hI,hc⟩:=h.at hlt
   obtain⟨c0,c1⟩:=hc w hB0;obtain⟨nm,zs⟩:=g;simp only at hI c0;cases he:(nm.toList==s.toList) with
   | false=>
    have HN:Hid (∀x∈gs.take (i+1),(x.1.toList==s.toList)=false):=by
     exact k104
    clear hc hI hg hT h;go_wp2
    go_round
    case rel=>exact⟨i+1,oo,by first | rfl | go_num,HN.out⟩
    case measure=>simp[intOf];omega
   | true=>
    have HM:Hid (kA w0 a' len' R):=by
     have:R=zs:=by rw[<-HR.out];exact hGe gs s i (nm,zs) hg hT he
     rw[this];exact hI
    clear hc hI hg hT h;go_wp2;go_ret
    first | exact⟨a', len', ⟨cap', rfl⟩,HM.out,rfl⟩ | exact⟨a', len', ⟨cap', rfl⟩,HM.out⟩
  ·obtain rfl:i=len:=by omega
   have HF:Hid (kA w0 none 0 R):=by
    have:R=[]:=by
     rw[<-HR.out];rw[zzm (Nat.le_of_eq hl)] at hT;exact gZl s gs hT
    rw[this];exact⟨rfl,oo,.inl rfl⟩
   clear hT h;go_wp2;go_ret
   first | exact⟨none,0,⟨0,rfl⟩,HF.out,rfl⟩ | exact⟨none,0,⟨0,rfl⟩,HF.out⟩
end Go.Proofs.YtjkebndkeamijaaGreatDoor
