/-
  PROVED HERE: what the texts DASets0, DASets, DASrch, DATakes, DATakeI say.
-/
import Derived.Test.YtjkebndkeamijaaGreatDoorCA13
import Derived.Maps.RangeWalk
import Derived.Laws.EntriesVeiled
set_option maxRecDepth 100000
set_option maxHeartbeats 1000000
namespace Go.Proofs.YtjkebndkeamijaaGreatDoor
def Via (F:List gD):Nat->Nat->Nat->Prop
 | 0,p,q=>p=q
 | k+1,p,q=>p=q\/∃x,F[p]? = some x/\x.1=0/\∃r∈x.2.1,Via F k r q
theorem Via.up {F:List gD}:∀{k p q:Nat},Via F k p q->Via F (k+1) p q:=by
 intro k
 induction k with
 | zero=>intro p q h;exact .inl h
 | succ k ih=>
  intro p q h;rcases h with h | ⟨x,hx,h0,r,hr,h⟩
  ·exact .inl h
  ·exact .inr ⟨x,hx,h0,r,hr,ih h⟩
theorem Via.upto {F:List gD}{k m p q:Nat}(h:k<=m)(hr:Via F k p q):Via F m p q:=by
 induction h with
 | refl=>exact hr
 | step _ ih=>exact Via.up ih
theorem Via.trans {F:List gD}:∀{k p q:Nat},Via F k p q->∀{m r:Nat},Via F m q r->Via F (k+m) p r:=by
 intro k
 induction k with
 | zero=>
  rintro p q rfl m r h;simpa using h
 | succ k ih=>
  intro p q h m r h';rw[show k+1+m=k+m+1 from by omega];rcases h with rfl | ⟨x,hx,h0,s,hs,h⟩
  ·exact Via.upto oo h'
  ·exact .inr ⟨x,hx,h0,s,hs,ih h h'⟩
theorem Via.one {F:List gD}{p q:Nat}{x:gD}(hx:F[p]? = some x)(h0:x.1=0)(hq:q∈x.2.1):Via F 1 p q:=.inr ⟨x,hx,h0,q,hq,rfl⟩
def yE (F:List gD)(S:Nat->Prop):Prop:=∀p x,S p->F[p]? = some x->x.1=0->∀q∈x.2.1,S q
theorem yE.via {F:List gD}{S:Nat->Prop}(h:yE F S):∀{k p q:Nat},S p->Via F k p q->S q:=by
 intro k
 induction k with
 | zero=>rintro p q hp rfl;exact hp
 | succ k ih=>
  intro p q hp hv;rcases hv with rfl | ⟨x,hx,h0,r,hr,hv⟩
  ·exact hp
  ·exact ih (h p x hp hx h0 r hr) hv
def kP (F:List gD)(p:Nat):Nat->Prop:=fun q=>∃k,Via F k p q
theorem gDd (F:List gD)(p:Nat):yE F (kP F p):=fun _q _x ⟨_,hk⟩ hx h0 _ hr=>⟨_,hk.trans (Via.one hx h0 hr)⟩
def wA (F:List gD)(S:Nat->Prop)(t:Int):Nat->Prop:=fun q=>∃a x r k,S a/\F[a]? = some x/\mW x.1 t=true/\x.2.1[0]? = some r/\Via F k r q
theorem gFf (F:List gD)(S:Nat->Prop)(t:Int):yE F (wA F S t):=fun _q _x ⟨a,y,r,_,h1,h2,h3,h4,hk⟩ hx h0 _ hr=>⟨a,y,r,_,h1,h2,h3,h4,hk.trans (Via.one hx h0 hr)⟩
def jU (F:List gD)(S:Nat->Prop)(w:List Int):Nat->Prop:=w.foldl (wA F) S
theorem gQg {F:List gD}{S:Nat->Prop}(h:yE F S):∀w,yE F (jU F S w):=by
 intro w
 induction w generalizing S with
 | nil=>exact h
 | cons t r ih=>exact ih (gFf F S t)
theorem gEb (F:List gD)(S:Nat->Prop)(w:List Int)(t:Int):jU F S (w++[t])=wA F (jU F S w) t:=by unfold jU;rw[List.foldl_append];rfl
theorem gBv {F:List gD}{S:Nat->Prop}(h:∀p,¬S p):∀w p,¬jU F S w p:=by
 intro w
 induction w generalizing S with
 | nil=>exact h
 | cons t r ih=>exact ih (fun p ⟨a,_,_,_,h1,_⟩=>h a h1)
theorem gDh {F:List gD}(_h0:F[0]? = some (0,[],0)):∀(w:List Int) (S:Nat->Prop),yE F S->((∃a k,S a/\jZ F k a w)↔jU F S w 0):=by
 intro w
 induction w with
 | nil=>
  intro S hS
  constructor
  ·rintro⟨a,k,ha,hr⟩
   show S 0
   induction k generalizing a with
   | zero=>obtain⟨rfl,_⟩:=hr;exact ha
   | succ k ih=>
    rcases hr with ⟨rfl,_⟩ | ⟨x,hx,⟨hz,q,hq,hr⟩ | ⟨_,t,v,q,e,_⟩⟩
    ·exact ha
    ·exact ih q (hS a x ha hx hz q hq) hr
    ·cases e
  ·intro h
   exact⟨0,0,h,rfl,rfl⟩
 | cons t v ih=>
  intro S hS;rw[show jU F S (t::v)=jU F (wA F S t) v from rfl,<-ih _ (gFf F S t)]
  constructor
  ·rintro⟨a,k,ha,hr⟩
   induction k generalizing a with
   | zero=>obtain⟨_,e⟩:=hr;cases e
   | succ k ihk=>
    rcases hr with ⟨_,e⟩ | ⟨x,hx,⟨hz,q,hq,hr⟩ | ⟨hz,t', v', q,e,ht,hq,hr⟩⟩
    ·cases e
    ·exact ihk q (hS a x ha hx hz q hq) hr
    ·cases e
     exact⟨q,k,⟨a,x,q,0,ha,hx,ht,hq,rfl⟩,hr⟩
  ·rintro⟨b,k,⟨a,x,r,m,ha,hx,ht,hr,hv⟩,hR⟩
   have hlift:∀{m p:Nat},Via F m p b->jZ F (m+k) p v:=by
    intro m
    induction m with
    | zero=>rintro p rfl;simpa using hR
    | succ m ihm=>
     intro p hp;rw[show m+1+k=m+k+1 from by omega];rcases hp with rfl | ⟨y,hy,hz,s,hs,hp⟩
     ·exact jZ.upto oo hR
     ·exact .inr ⟨y,hy,.inl ⟨hz,s,hs,ihm hp⟩⟩
   refine⟨a,m+k+1,ha,.inr ⟨x,hx,.inr ⟨fun e=>?_,t,v,r,rfl,ht,hr,hlift hv⟩⟩⟩;rw[e,sQ] at ht;cases ht
def oY (F:List gD)(S S' : Nat->Bool)(p:Nat):Prop :=
 (∀q,S q=true->S' q=true)/\S' p=true/\(∀q,S' q=true->S q=true\/∃k,Via F k p q)/\∀q x,S' q=true->S q=false->F[q]? = some x->x.1=0->∀r∈x.2.1,S' r=true
def pR (F:List gD)(S S' : Nat->Bool)(p:Nat)(l:List Nat):Prop :=
 (∀q,S q=true->S' q=true)/\S' p=true/\(∀q∈l,S' q=true)/\(∀q,S' q=true->S q=true\/∃k,Via F k p q)/\∀q x,S' q=true->S q=false->q≠p->F[q]? = some x->x.1=0->∀r∈x.2.1,S' r=true
theorem pR.step {F:List gD}{S S1 S2:Nat->Bool}{p q:Nat}{l:List Nat}{x:gD}(hx:F[p]? = some x)(h0:x.1=0)(hq:q∈x.2.1)(h:pR F S S1 p l)(g:oY F S1 S2 q):pR F S S2 p (l++[q]):=by
 obtain⟨h1,h2,h3,h4,h5⟩:=h
 obtain⟨g1,g2,g3,g4⟩:=g
 refine⟨fun r hr=>g1 r (h1 r hr),g1 p h2,fun r hr=>?_,fun r hr=>?_,fun r y hr hn hne hy hz s hs=>?_⟩
 ·rcases List.mem_append.1 hr with hr | hr
  ·exact g1 r (h3 r hr)
  ·simp at hr;rw[hr];exact g2
 ·rcases g3 r hr with h | ⟨k,h⟩
  ·exact h4 r h
  ·exact .inr ⟨_,(Via.one hx h0 hq).trans h⟩
 ·cases hc:S1 r with
  | true=>exact g1 s (h5 r y hc hn hne hy hz s hs)
  | false=>exact g4 r y hr hc hy hz s hs
theorem pR.done {F:List gD}{S S' : Nat->Bool}{p:Nat}{x:gD}(hx:F[p]? = some x)(h:pR F S S' p x.2.1):oY F S S' p:=by
 obtain⟨h1,h2,h3,h4,h5⟩:=h
 refine⟨h1,h2,h4,fun q y hq hn hy hz r hr=>?_⟩
 by_cases e:q=p
 ·subst e
  rw[hx] at hy;cases hy;exact h3 r hr
 ·exact h5 q y hq hn e hy hz r hr
theorem oY.refl {F:List gD}{S:Nat->Bool}{p:Nat}(h:S p=true):oY F S S p:=⟨fun _ h=>h,h,fun _ h=>.inl h,fun q _ h1 h2=>by rw[h1] at h2;cases h2⟩
def vX (S:Nat->Bool)(p:Nat):Nat->Bool:=fun q=>S q||(q==p)
theorem pR.start (F:List gD)(S:Nat->Bool)(p:Nat):pR F S (vX S p) p []:=by
 refine⟨fun q h=>by simp[vX,h],by simp[vX],fun q hq=>(by cases hq),fun q h=>?_,fun q x h hn hne=>?_⟩
 ·simp[vX] at h
  rcases h with h | h
  ·exact .inl h
  ·exact .inr ⟨0,h.symm⟩
 ·simp[vX,hn] at h
  exact absurd h hne
theorem oY.iff {F:List gD}{S S' : Nat->Bool}{p:Nat}(h:oY F S S' p)(hS:yE F (fun q=>S q=true)):yE F (fun q=>S' q=true)/\∀q,S' q=true↔(S q=true\/kP F p q):=by
 obtain⟨h1,h2,h3,h4⟩:=h
 have hsh:yE F (fun q=>S' q=true):=fun q x hq hx hz r hr=>by
  cases hc:S q with
  | true=>exact h1 r (hS q x hc hx hz r hr)
  | false=>exact h4 q x hq hc hx hz r hr
 refine⟨hsh,fun q=>⟨fun h=>h3 q h,fun h=>?_⟩⟩
 rcases h with h | ⟨k,h⟩
 ·exact h1 q h
 ·exact hsh.via h2 h
def gGg (S:Nat->Bool)(N:Nat):Nat:=((List.range N).filter (fun p => !S p)).length
theorem gJl {α:Type}{p q:α->Bool}:∀l:List α,(∀x,p x=true->q x=true)->(l.filter p).length<=(l.filter q).length:=by
 intro l h
 induction l with
 | nil=>exact zzb _
 | cons x r ih=>
  rw[List.filter_cons,List.filter_cons];cases hp:p x with
  | true=>rw[h x hp];simpa using ih
  | false=>
   cases q x with
   | true=>simp;omega
   | false=>simpa using ih
theorem gYm {α:Type}{p q:α->Bool}{a:α}:∀l:List α,(∀x,p x=true->q x=true)->a∈l->p a=false->q a=true->(l.filter p).length<(l.filter q).length:=by
 intro l h ha hp hq
 induction l with
 | nil=>cases ha
 | cons x r ih=>
  rw[List.filter_cons,List.filter_cons];rcases List.mem_cons.1 ha with rfl | ha
  ·rw[hp,hq]
   have:=gJl r h
   simp
   omega
  ·have:=ih ha
   cases hpx:p x with
   | true=>rw[h x hpx];simpa using this
   | false=>
    cases q x with
    | true=>simp;omega
    | false=>simpa using this
theorem hEo {S S' : Nat->Bool}{N:Nat}(h:∀q,S q=true->S' q=true):gGg S' N<=gGg S N:=gJl _ fun x hx=>by
 cases hc:S x with
 | false=>rfl
 | true=>rw[h x hc] at hx;exact hx
theorem hEn {S S' : Nat->Bool}{N p:Nat}(h:∀q,S q=true->S' q=true)(hp:p<N)(h1:S p=false)(h2:S' p=true):gGg S' N<gGg S N:=gYm _ (fun x hx=>by
 cases hc:S x with
 | false=>rfl
 | true=>rw[h x hc] at hx;exact hx) (List.mem_range.2 hp) (by rw[h2];rfl) (by rw[h1];rfl)
end Go.Proofs.YtjkebndkeamijaaGreatDoor
namespace Go.Proofs.YtjkebndkeamijaaGreatDoor
open Go.RowKit Go.Maps
theorem gBc:Keyed Tryz.prog 3:=int_keyed Tryz.underlying3
theorem gMl (w:World):(zeroValue 172).run Tryz.prog w=.ok (.agg #[]) w:=by kernel_rfl
theorem wfN {p:Nat}(h:p<9223372036854775808):(Lit.int .i64 (p:Int)).wf=true:=WalkArith.wf_i64 oo
def kO (w:World)(b N:Nat)(S:Nat->Bool):Prop:=∃D:DataW Unit,w.ownsMap Tryz.prog 3 unitElem b N D/\(∀p,S p=true->p<N)/\∀kl,Maps.has D kl=true↔∃p:Nat,kl=.int .i64 (p:Int)/\S p=true
theorem gLq {D:DataW Unit}{S:Nat->Bool}(h:∀kl,Maps.has D kl=true↔∃p:Nat,kl=.int .i64 (p:Int)/\S p=true)(p:Nat):Maps.has D (.int .i64 (p:Int))=S p:=by
 rw[Bool.eq_iff_iff,h]
 constructor
 ·rintro⟨q,e,hq⟩
  have:(p:Int)=(q:Int):=by injection e
  rw[show p=q from by omega];exact hq
 ·intro hp
  exact⟨p,rfl,hp⟩
theorem gRd {D:DataW Unit}(hD:Tidy D){N:Nat}(h:∀kl,Maps.has D kl=true->∃p:Nat,kl=.int .i64 (p:Int)/\p<N)(hk:∀es,D=.map es->∀e∈es,WideAt.IsKeyLit e.1):Maps.size D<=N:=by
 obtain⟨es,rfl,hp⟩:=hD
 show es.length<=N
 have hex:∀e∈es,∃p:Nat,e.1=.int .i64 (p:Int)/\p<N:=fun e he=>h e.1 (List.any_eq_true.2 ⟨e,he,WideAt.sameKey_self (hk es rfl e he)⟩)
 clear h hk
 induction N generalizing es with
 | zero=>
  cases es with
  | nil=>exact zzb _
  | cons e r=>obtain⟨p,_,hp⟩:=hex e (zzg ..);omega
 | succ N ih=>
  have hsplit:(es.filter (fun e => !(e.1.sameKey (.int .i64 (N:Int))))).length+1 ≥ es.length:=by
   have:=Maps.length_strike (k:=.int .i64 (N:Int)) es hp
   split at this<;>omega
  have:=ih (es.filter (fun e => !(e.1.sameKey (.int .i64 (N:Int))))) (hp.filter _) (fun e he=>by
   rw[List.mem_filter] at he;obtain⟨p,e1,hp⟩:=hex e he.1;refine⟨p,e1,?_⟩;rcases Nat.lt_or_ge p N with hlt | hge
   ·exact hlt
   ·exfalso
    (obtain rfl:p=N:=by omega);have h2:=he.2;rw[e1,WideAt.sameKey_self (by trivial)] at h2
    cases h2)
  omega
theorem gWr {w:World}{b n:Nat}{D:DataW Unit}(h:w.ownsMap Tryz.prog 3 unitElem b n D){N:Nat}(hN:Maps.size D<=N):w.ownsMap Tryz.prog 3 unitElem b N D:=by
 obtain⟨es,clock,hb,F,hs,rfl⟩:=h
 refine⟨es,clock,hb,F,?_,rfl⟩
 simpa [Maps.size,length_sorted] using hN
theorem gRf {w:World}{b n N:Nat}{D:DataW Unit}{S:Nat->Bool}(h:w.ownsMap Tryz.prog 3 unitElem b n D)(hS:∀p,S p=true->p<N)(hD:∀kl,Maps.has D kl=true↔∃p:Nat,kl=.int .i64 (p:Int)/\S p=true):kO w b N S:=by
 refine⟨D,gWr h (gRd (h.tidy gBc) (fun kl hk=>?_) (fun es e x hx=>?_)),hS,hD⟩
 ·obtain⟨p,e,hp⟩:=(hD kl).1 hk
  exact⟨p,e,hS p hp⟩
 ·obtain⟨es', e', _,hk⟩:=h.entries gBc
  rw[e] at e';cases e';exact hk x hx
theorem kO.kept {w w' : World}{row:Option Nat}{b N:Nat}{S:Nat->Bool}(h:kO w b N S)(hg:w.grownBy w' row)(hne:some b≠row):kO w' b N S:=by
 obtain⟨D,h1,h2⟩:=h
 exact⟨D,h1.kept hg hne,h2⟩
theorem kO.lt {w:World}{b N:Nat}{S:Nat->Bool}(h:kO w b N S):b<w.heap.size:=by
 obtain⟨D,h1,_⟩:=h
 exact h1.lt
theorem kO.notCells {w:World}{b N:Nat}{S:Nat->Bool}(h:kO w b N S){c:Array Value}{t:TypeId}{fz:Nat×Nat}:w.heap[b]? ≠ some (.cells c t fz):=by
 obtain⟨D,⟨es,clock,hb,_⟩,_⟩:=h
 rw[hb]
 intro e
 cases e
theorem kO.others {w w' : World}{b N:Nat}{S:Nat->Bool}(h:kO w b N S)(hg:w.grownBy w' (some b)):∀(k:Nat) (c:Array Value) (t:TypeId),w.heap[k]? = some (.cells c t (0,0))->w'.heap[k]? = w.heap[k]? := fun k c t hk=>
 hg.block k (zza.1 hk).1 (fun e=>by cases e;exact h.notCells hk)
def nI (w:World)(lv:Value)(F:List gD):Prop:=∃rs:List vQ,w.ownsRow 0 167 3 lv F.length (vW rs)/\∀(i:Nat) (x:gD),F[i]? = some x->∃r,rs[i]? = some r/\r.1=x.1/\r.2.2=x.2.2/\w.ownsRow 0 3 1 r.2.1 x.2.1.length (lU x.2.1)
theorem nI.others {w w' : World}{lv:Value}{F:List gD}(h:nI w lv F)(hs:∀(b:Nat) (c:Array Value) (t:TypeId),w.heap[b]? = some (.cells c t (0,0))->w'.heap[b]? = w.heap[b]?):nI w' lv F:=by
 obtain⟨rs,h1,h2⟩:=h
 refine⟨rs,gF h1 fun g hg=>?_,fun i x hx=>?_⟩
 ·obtain⟨_,c,hc⟩:=gC h1 hg
  exact hs g _ _ hc
 ·obtain⟨r,r1,r2,r3,r4⟩:=h2 i x hx
  exact⟨r,r1,r2,r3,gF r4 fun g hg=>by
   obtain⟨_,c,hc⟩:=gC r4 hg
   exact hs g _ _ hc⟩
theorem iA.places {A:Nat->Prop}{w:World}{B:Nat}{gv:Value}{L:List gD}(h:iA A w B gv L):∃lv,w.heap[B]? = some (.cells #[gv,lv] 169 (0,0))/\nI w lv L:=by
 obtain⟨v,rs,h⟩:=h
 refine⟨v,h.plan,rs,h.row,fun i x hx=>?_⟩
 obtain⟨r,h1,h2,h3,h4,_⟩:=h.each i x hx
 exact⟨r,h1,h2,h3,h4⟩
theorem nI.slice {w:World}{lv:Value}{F:List gD}(h:nI w lv F)(h0:0<F.length):∃g cap,lv=.slice (some ⟨g,0,none⟩) F.length cap/\∀(i:Nat) (x:gD),F[i]? = some x →
  w.cell? ⟨g,i * 3,none⟩=some (.int .u16 (x.1:Int))/\w.cell? ⟨g,i * 3+2,none⟩=some (.int .i64 (x.2.2:Int))/\∃a n c,w.cell? ⟨g,i * 3+1,none⟩=some (.slice a n c)/\w.ownsRow 0 3 1 (.slice a n c) x.2.1.length (lU x.2.1):=by
 obtain⟨rs,h1,h2⟩:=h
 obtain⟨g,cap,e,hc⟩:=gY h1 h0
 refine⟨g,cap,e,fun i x hx=>?_⟩
 obtain⟨r,r1,r2,r3,r4⟩:=h2 i x hx
 obtain⟨f0,f1,f2⟩:=gKn rs i r r1
 rw[r2] at f0
 rw[r3] at f2
 have hv:∃a n c,r.2.1=.slice a n c:=by
  rcases r4.2 with ⟨e,_⟩ | ⟨g', c', _,e,_⟩
  ·exact⟨_,_,_,e⟩
  ·exact⟨_,_,_,e⟩
 obtain⟨a,n,c,e2⟩:=hv
 rw[e2] at f1 r4
 exact⟨hc _ _ f0,hc _ _ f2,a,n,c,hc _ _ f1,r4⟩
def Clo (w:World)(bs B1 B2 B3:Nat)(lv:Value):Prop:=Boxed w B1 159 lv/\Boxed w B2 161 (.map (some bs))/\Boxed w B3 146 (.func (.func 151) #[] #[.pointer (some ⟨B2,0,none⟩),.pointer (some ⟨B1,0,none⟩),.pointer (some ⟨B3,0,none⟩)])
theorem Clo.others {w w' : World}{bs B1 B2 B3:Nat}{lv:Value}(h:Clo w bs B1 B2 B3 lv)(hs:∀(b:Nat) (c:Array Value) (t:TypeId),w.heap[b]? = some (.cells c t (0,0))->w'.heap[b]? = w.heap[b]?):Clo w' bs B1 B2 B3 lv :=
 ⟨(hs _ _ _ h.1).trans h.1,(hs _ _ _ h.2.1).trans h.2.1,(hs _ _ _ h.2.2).trans h.2.2⟩
theorem gDi (w:World)(a:Option Addr)(n c bs:Nat) :
  Calls Tryz.prog 119 #[.slice a n c,.map (some bs)] w fun e w' => e=.returned (.func (.func 151) #[] #[.pointer (some ⟨w.heap.size+1,0,none⟩),.pointer (some ⟨w.heap.size,0,none⟩),.pointer (some ⟨w.heap.size+1+1,0,none⟩)])/\Clo w' bs w.heap.size (w.heap.size+1) (w.heap.size+1+1) (.slice a n c)/\w.grownBy w' none:=by
 have hmf:∀(fn:Fn) (first cap:Array Value) (w:World),(Instr.makeFunc fn first cap).run Tryz.prog w=.ok (.func fn first cap) w:=fun _ _ _ _=>rfl
 obtain⟨v,hv⟩:∃v,v=Value.func (.func 151) #[] #[.pointer (some ⟨w.heap.size+1,0,none⟩),.pointer (some ⟨w.heap.size,0,none⟩),.pointer (some ⟨w.heap.size+1+1,0,none⟩)]:=⟨_,rfl⟩
 have HE:Hid (Clo (((w.alloc (.cells #[.slice a n c] 159)).alloc (.cells #[.map (some bs)] 161)).alloc (.cells #[v] 146)) bs w.heap.size (w.heap.size+1) (w.heap.size+1+1) (.slice a n c)/\w.grownBy (((w.alloc (.cells #[.slice a n c] 159)).alloc (.cells #[.map (some bs)] 161)).alloc (.cells #[v] 146)) none):=by
  have b1:Boxed ((w.alloc (.cells #[.slice a n c] 159)).alloc (.cells #[.map (some bs)] 161)) (w.heap.size+1) 161 (.map (some bs)):=by
   have:=Boxed.new (w.alloc (.cells #[.slice a n c] 159)) 161 (.map (some bs))
   rwa [World.size_alloc] at this
  have b2:Boxed (((w.alloc (.cells #[.slice a n c] 159)).alloc (.cells #[.map (some bs)] 161)).alloc (.cells #[v] 146)) (w.heap.size+1+1) 146 v:=by
   have:=Boxed.new ((w.alloc (.cells #[.slice a n c] 159)).alloc (.cells #[.map (some bs)] 161)) 146 v
   rwa [World.size_alloc,World.size_alloc] at this
  refine⟨⟨((Boxed.new w 159 (.slice a n c)).alloc (.cells #[.map (some bs)] 161)).alloc (.cells #[v] 146),b1.alloc _,?_⟩,((World.grownBy_alloc w _ none).trans (World.grownBy_alloc _ _ none)).trans (World.grownBy_alloc _ _ none)⟩;rw[<-hv];exact b2
 have HV:Hid (v=Value.func (.func 151) #[] #[.pointer (some ⟨w.heap.size+1,0,none⟩),.pointer (some ⟨w.heap.size,0,none⟩),.pointer (some ⟨w.heap.size+1+1,0,none⟩)]):=hv
 clear hv
 go_enter Tryz.func119,Tryz.ntmps119
 go_wp2
 go_ret
 exact⟨rfl,by have:=HE.out;rw[HV.out] at this;exact this⟩
theorem hFe {D:DataW Unit}{S:Nat->Bool}(hm:IsMap D)(h:∀kl,Maps.has D kl=true↔∃p:Nat,kl=.int .i64 (p:Int)/\S p=true)(p:Nat)(d:DataW Unit):∀kl,Maps.has (D.put (.int .i64 (p:Int)) d) kl=true↔∃q:Nat,kl=.int .i64 (q:Int)/\vX S p q=true:=by
 intro kl
 by_cases e:kl=.int .i64 (p:Int)
 ·rw[e,has_put_same hm (by trivial)]
  exact⟨fun _=>⟨p,rfl,by simp[vX]⟩,fun _=>rfl⟩
 ·rw[has_put_other e,h]
  constructor
  ·rintro⟨q,e1,hq⟩
   exact⟨q,e1,by simp[vX,hq]⟩
  ·rintro⟨q,e1,hq⟩
   refine⟨q,e1,?_⟩;simp[vX] at hq;rcases hq with hq | hq
   ·exact hq
   ·exact absurd (by rw[e1,hq]) e
theorem gUv (F:List gD)(lv:Value)(bs B1 B2 B3 N:Nat)(hN:N<=1000000000)(p:Nat)(w:World)(S:Nat->Bool)(hS:kO w bs N S)(hC:Clo w bs B1 B2 B3 lv)(hp:p<N)(hSp:S p=true) :
  Calls Tryz.prog 151 #[.int .i64 (p:Int),.pointer (some ⟨B2,0,none⟩),.pointer (some ⟨B1,0,none⟩),.pointer (some ⟨B3,0,none⟩)] w fun e w' => e=.returned (.tuple #[])/\∃S', kO w' bs N S' /\ oY F S S' p/\w.grownBy w' (some bs):=by
 obtain⟨D,hown,hlt,hD⟩:=id hS
 have hk1:Maps.has D (.int .i64 (p:Int))=true:=by rw[gLq hD p,hSp]
 have c2:=hC.2.1.cell
 have HE:Hid (∃S', kO (w.alloc (.cells #[] 172)) bs N S' /\ oY F S S' p/\w.grownBy (w.alloc (.cells #[] 172)) (some bs)):=⟨S,hS.kept (World.grownBy_alloc w _ none) (by simp),oY.refl hSp,World.grownBy_alloc w _ _⟩
 clear hS hC hD
 go_enter Tryz.func151,Tryz.ntmps151
 go_wp2_with (first
  | (at_lookup;refine wpList_lookup_own_unit _ rfl _ _ 161 rfl 3 172 gBc Tryz.underlying161 (gMl _) bs N D rfl hown _ _ rfl (keyOf_int_mk Tryz.underlying3 (wfN oo)) ?_;rw[hk1])
  | go_in)
 refine bodyPost_ret (results_none rfl _ _ _) rfl ?_
 exact⟨rfl,HE.out⟩
theorem gGy (F:List gD)(lv:Value)(bs B1 B2 B3 N:Nat)(hFN:F.length=N)(hN:N<=1000000000)(hnx:∀(i:Nat) (x:gD),F[i]? = some x->x.1=0->∀q∈x.2.1,q<N)(hnl:∀(i:Nat) (x:gD),F[i]? = some x->x.2.1.length<=2000000000):∀(m p:Nat) (w:World) (S:Nat->Bool),gGg S N<=m->kO w bs N S->nI w lv F->Clo w bs B1 B2 B3 lv->p<N →
  Calls Tryz.prog 151 #[.int .i64 (p:Int),.pointer (some ⟨B2,0,none⟩),.pointer (some ⟨B1,0,none⟩),.pointer (some ⟨B3,0,none⟩)] w fun e w' => e=.returned (.tuple #[])/\∃S', kO w' bs N S' /\ oY F S S' p/\w.grownBy w' (some bs):=by
 intro m
 induction m with
 | zero=>
  intro p w S hm hS hL hC hp
  have hSp:S p=true:=by
   cases h:S p with
   | true=>rfl
   | false=>
    exfalso
    have:p∈(List.range N).filter (fun p => !S p):=List.mem_filter.2 ⟨List.mem_range.2 hp,by rw[h];rfl⟩
    have:=List.length_pos_of_mem this
    unfold gGg at hm;omega
  exact gUv F lv bs B1 B2 B3 N hN p w S hS hC hp hSp
 | succ m ih=>
  intro p w S hm hS hL hC hp;cases hSp:S p with
  | true=>exact gUv F lv bs B1 B2 B3 N hN p w S hS hC hp hSp
  | false=>
   obtain⟨D,hown,hltS,hD⟩:=id hS;have hk1:Maps.has D (.int .i64 (p:Int))=false:=by rw[gLq hD p,hSp]
   have hout:gGg (vX S p) N<=m:=by
    have:=hEn (S:=S) (S' := vX S p) (fun q h=>by simp[vX,h]) hp hSp (by simp[vX])
    omega
   obtain⟨x,hx⟩:∃x,F[p]? = some x:=⟨_,zze oo⟩;obtain⟨g,cap,rfl,hcell⟩:=hL.slice oo;obtain⟨t0,_,ha,hnn,hc,t1,hrow⟩:=hcell p x hx
   -- in any world whose cells are as they were
   have HW:Hid (∀W:World,(∀(b:Nat) (c:Array Value) (t:TypeId),w.heap[b]? = some (.cells c t (0,0))->W.heap[b]? = w.heap[b]?)->(W.cell? ⟨B2,0,none⟩=some (.map (some bs))/\W.cell? ⟨B1,0,none⟩=some (.slice (some ⟨g,0,none⟩) F.length cap)/\W.cell? ⟨B3,0,none⟩=some (.func (.func 151) #[] #[.pointer (some ⟨B2,0,none⟩),.pointer (some ⟨B1,0,none⟩),.pointer (some ⟨B3,0,none⟩)]) ∧
     W.cell? ⟨g,p * 3,none⟩=some (.int .u16 (x.1:Int))/\W.cell? ⟨g,p * 3+1,none⟩=some (.slice ha hnn hc))/\Clo W bs B1 B2 B3 (.slice (some ⟨g,0,none⟩) F.length cap)/\nI W (.slice (some ⟨g,0,none⟩) F.length cap) F/\(∀(j q:Nat),x.2.1[j]? = some q->∃hg,ha=some ⟨hg,0,none⟩/\hnn=x.2.1.length/\W.cell? ⟨hg,j,none⟩=some (.int .i64 (q:Int)))):=by
    intro W hW;have hC' := hC.others hW;have hL' := hL.others hW
    have hg:W.heap[g]? = w.heap[g]?:=by
     obtain⟨rs,h1,_⟩:=id hL;obtain⟨_,c,hc⟩:=gC h1 (g:=g) rfl;exact hW g _ _ hc
    refine⟨⟨hC'.2.1.cell,hC'.1.cell,hC'.2.2.cell,(zzi (w:=w) (a:=⟨g,p * 3,none⟩) hg).trans t0,(zzi (w:=w) (a:=⟨g,p * 3+1,none⟩) hg).trans t1⟩,hC', hL', fun j q hq=>?_⟩;have hpos:0<x.2.1.length:=Nat.lt_of_le_of_lt (zzn _) (zzc.1 hq).1
    have hrow' : W.ownsRow 0 3 1 (.slice ha hnn hc) x.2.1.length (lU x.2.1):=gF hrow fun k hk=>by
     obtain⟨_,c,hc⟩:=gC hrow hk;exact hW k _ _ hc
    obtain⟨hg', hc', e,hcc⟩:=gY hrow' hpos;cases e;exact⟨hg', rfl,rfl,hcc j _ (gAw hq)⟩
   obtain⟨⟨c2,c1,c3,d0,d1⟩,_⟩:=HW.out w (fun _ _ _ _=>rfl)
   have hlen0:hnn=x.2.1.length:=by
    rcases hrow.2 with ⟨e,h0⟩ | ⟨g', c', _,e,_⟩
    ·cases e
     exact h0.symm
    ·cases e
     rfl
   subst hlen0;have hnlx:=hnl p x hx;have hnxx:=hnx p x hx
   have HSET:Hid (∀w2:World,w2.ownsMap Tryz.prog 3 unitElem bs (N+1) (D.put (.int .i64 (p:Int)) (.agg []))->(w.alloc (.cells #[] 172)).grownBy w2 (some bs)->kO w2 bs N (vX S p)/\w.grownBy w2 (some bs)/\∀(b:Nat) (c:Array Value) (t:TypeId),w.heap[b]? = some (.cells c t (0,0))->w2.heap[b]? = w.heap[b]?):=by
    intro w2 h2 g2;have hg:w.grownBy w2 (some bs):=(World.grownBy_alloc w _ (some bs)).trans g2;refine⟨gRf h2 (fun q hq=>?_) (hFe hown.isMap hD p _),hg,hS.others hg⟩;simp[vX] at hq;rcases hq with hq | hq
    ·exact hltS q hq
    ·omega
   have hown1:=hown.alloc (.cells #[] 172);have hb2:B2<w.heap.size:=hC.2.1.lt;have hb1:B1<w.heap.size:=hC.1.lt;obtain⟨y,nx,ls⟩:=x;simp only at *;clear hC hL hrow hcell t0 t1
   by_cases hy:y=0
   ·subst hy
    have HSt:=pR.start F S p;have HD:Hid (∀S', pR F S S' p nx->oY F S S' p):=fun S' h=>h.done hx
    have HStep:Hid (∀(S1 S2:Nat->Bool) (j q:Nat),nx[j]? = some q->pR F S S1 p (nx.take j)->oY F S1 S2 q->pR F S S2 p (nx.take (j+1))):=fun S1 S2 j q hq h g=>by
     have:=h.step hx rfl (zzj hq) g
     rw[List.take_add_one,hq];exact this
    have HSt' : Hid (pR F S (vX S p) p (nx.take 0)):=HSt;have HNx:Hid (∀q∈nx,q<N):=hnxx rfl;have HIH:Hid (∀(q:Nat) (W:World) (S1:Nat->Bool),gGg S1 N<=m->kO W bs N S1->nI W (.slice (some ⟨g,0,none⟩) F.length cap) F->Clo W bs B1 B2 B3 (.slice (some ⟨g,0,none⟩) F.length cap)->q<N->Calls Tryz.prog 151 #[.int .i64 (q:Int),.pointer (some ⟨B2,0,none⟩),.pointer (some ⟨B1,0,none⟩),.pointer (some ⟨B3,0,none⟩)] W fun e w' => e=.returned (.tuple #[])/\∃S', kO w' bs N S' /\ oY F S1 S' q/\W.grownBy w' (some bs)):=ih;clear ih HSt hnxx hx hnx hnl hD hS hSp hm;(have hpi:(p:Int)<(F.length:Int):=by omega);(have hp0:(0:Int)<=(p:Int):=by omega);have hty:(((0:Nat):Int)==0)=true:=rfl;go_enter Tryz.func151,Tryz.ntmps151
    go_wp2_with (first
     | (at_lookup;refine wpList_lookup_own_unit _ rfl _ _ 161 rfl 3 172 gBc Tryz.underlying161 (gMl _) bs N D rfl hown _ _ rfl (keyOf_int_mk Tryz.underlying3 (wfN oo)) ?_;rw[hk1])
     | (at_mapUpdate;refine wpList_mapUpdate_own _ rfl _ _ _ 161 rfl 3 172 gBc Tryz.underlying161 _ bs N D rfl hown1 (by unfold maxLen;omega) _ _ _ rfl rfl (keyOf_int_mk Tryz.underlying3 (wfN oo)) _ [] unitElem_mk ?_;intro w2 hown2 hgrow2;obtain⟨hS2,hg2,hcells2⟩:=HSET.out w2 hown2 hgrow2;obtain⟨⟨c2', c1', c3', d0', d1'⟩,_⟩:=HW.out w2 hcells2)
     | go_in)
    (have HC2:Hid (∀W:World,w2.grownBy W (some bs)->∀(b:Nat) (c:Array Value) (t:TypeId),w.heap[b]? = some (.cells c t (0,0))->W.heap[b]? = w.heap[b]?):=fun W hW b c t hb=>(hS2.others hW b c t ((hcells2 b c t hb).trans hb)).trans (hcells2 b c t hb));have HG2:Hid (w.grownBy w2 (some bs)):=hg2
    go_loopw [31] (fun i wr=>∃(j:Nat) (S1:Nat->Bool),j<=nx.length/\i=.int .i64 (j:Int)/\kO wr bs N S1/\pR F S S1 p (nx.take j)/\gGg S1 N<=m/\w2.grownBy wr (some bs)) (fun i _=>nx.length - (intOf i).toNat)
    case atStart=>exact⟨0,vX S p,zzn _,rfl,hS2,HSt'.out,hout,⟨rfl,rfl,rfl,zzb _,fun _ _ _=>rfl⟩⟩
    case round=>
     obtain⟨j,S1,hj,rfl,hS1,hGS,hou,hgw⟩:=hrel;obtain⟨⟨k2,k1,k3,k4,k5⟩,hC3,hL3,hkid⟩:=HW.out wr (HC2.out wr hgw)
     by_cases hlt:j<nx.length
     ·have hq:nx[j]? = some nx[j]:=zze hlt
      obtain⟨hg', e1,e2,hcq⟩:=hkid j _ hq;subst e1;have hqN:=HNx.out _ (zzj hq);have HCALL:=HIH.out nx[j] wr S1 hou hS1 hL3 hC3 hqN;(have HS3:Hid (∀S2,oY F S1 S2 nx[j]->pR F S S2 p (nx.take (j+1))/\gGg S2 N<=m):=fun S2 g=>⟨HStep.out S1 S2 j _ hq hGS g,Nat.le_trans (hEo g.1) hou⟩);(have hji:(j:Int)<(nx.length:Int):=by omega);have HGW:Hid (w2.grownBy wr (some bs)):=hgw;clear hkid hq hS1 hGS hgw hC3 hL3 HC2 HW HSET;generalize nx[j]=q at *;(go_wp2_with fail);refine HCALL.mono ?_;rintro e W ⟨rfl,S2,hS2', hG,hgW⟩;obtain⟨hGS', hou'⟩:=HS3.out S2 hG;clear HCALL;go_wp2
      go_roundw
      case rel=>exact⟨j+1,S2,oo,by first | rfl | go_num,hS2', hGS', hou', HGW.out.trans hgW⟩
      case measure=>simp[intOf];omega
     ·obtain rfl:j=nx.length:=by omega
      rw[zzm (zzb _)] at hGS;have HE:Hid (∃S', kO wr bs N S' /\ oY F S S' p/\w.grownBy wr (some bs)):=⟨S1,hS1,HD.out S1 hGS,HG2.out.trans hgw⟩;clear hkid hS1 hGS hgw hC3 hL3 HC2 HW HSET HIH HStep;go_wp2
      go_end0
      exact⟨rfl,HE.out⟩
   ·have hty:((y:Int)==0)=false:=by rw[beq_eq_false_iff_ne];omega
    have HD:Hid (oY F S (vX S p) p):=by
     obtain⟨h1,h2,h3,h4,h5⟩:=pR.start F S p;refine⟨h1,h2,h4,fun q z hq hn hz h0 r hr=>?_⟩
     by_cases e:q=p
     ·subst e
      rw[hx] at hz;cases hz;exact absurd h0 hy
     ·exact h5 q z hq hn e hz h0 r hr
    clear ih hnxx hx hnx hnl hD hS hSp hm;(have hpi:(p:Int)<(F.length:Int):=by omega);(have hp0:(0:Int)<=(p:Int):=by omega);go_enter Tryz.func151,Tryz.ntmps151
    go_wp2_with (first
     | (at_lookup;refine wpList_lookup_own_unit _ rfl _ _ 161 rfl 3 172 gBc Tryz.underlying161 (gMl _) bs N D rfl hown _ _ rfl (keyOf_int_mk Tryz.underlying3 (wfN oo)) ?_;rw[hk1])
     | (at_mapUpdate;refine wpList_mapUpdate_own _ rfl _ _ _ 161 rfl 3 172 gBc Tryz.underlying161 _ bs N D rfl hown1 (by unfold maxLen;omega) _ _ _ rfl rfl (keyOf_int_mk Tryz.underlying3 (wfN oo)) _ [] unitElem_mk ?_;intro w2 hown2 hgrow2;obtain⟨hS2,hg2,hcells2⟩:=HSET.out w2 hown2 hgrow2;obtain⟨⟨c2', c1', c3', d0', d1'⟩,_⟩:=HW.out w2 hcells2)
     | go_in)
    first | go_end0 | refine bodyPost_ret (results_none rfl _ _ _) rfl ?_
    exact⟨rfl,_,hS2,HD.out,hg2⟩
theorem k78{p:Prop}(h:p:=by
  go_enter Tryz.func152,Tryz.ntmps152;(go_wp2_with fail);refine(HT.out _).mono ?_;rintro e W ⟨rfl,hW⟩;rw[hW];go_wp2;go_ret;exact⟨rfl,HG.out _⟩
  ):p:=h
theorem gMz (m:Nat)(hm:m<65536)(a:Option Addr)(n c:Nat)(l t:Int)(w:World) :
  Calls Tryz.prog 152 #[.agg #[.int .u16 (m:Int),.slice a n c,.int .i64 l],.int .i64 t] w fun e w' => e=.returned (.bool (mW m t))/\w.grownBy w' none:=by
 have HT:Hid (∀W,Calls Tryz.prog 163 #[.int .i64 t] W fun e w' => e=.returned (.bool (qM t))/\w' = W):=fun W=>gBf t W
 have HG:Hid (∀o,w.grownBy (w.alloc o) none):=fun o=>World.grownBy_alloc w o none
 have htk:mW m t=(qM t&&m.testBit t.toNat):=by unfold mW qM;rfl
 rw[htk]
 cases hi:qM t with
 | false=>
  rw[hi] at HT;exact k78
 | true=>
  rw[hi] at HT;(have ht:0<=t/\t<16:=by unfold qM at hi;simpa using hi);obtain⟨t0,t1⟩:=ht
  have hb:(bits BinOp.and IntKind.u16 ((m:Int) / 2 ^ t.toNat) 1 != 0)=m.testBit t.toNat:=by
   generalize t.toNat=k
   have e1:((m:Int) / 2 ^ k)=((m / 2 ^ k:Nat):Int):=by
    rw[Int.natCast_ediv]
    simp
   have hlt:m / 2 ^ k<65536:=Nat.lt_of_le_of_lt (Nat.div_le_self _ _) hm;have e2:=u16_and_nat (m / 2 ^ k) 1 hlt (by decide);rw[e1,show (1:Int)=((1:Nat):Int) from rfl,e2];unfold Nat.testBit;rw[Nat.shiftRight_eq_div_pow,Nat.and_comm];rw[Bool.eq_iff_iff]
   simp
   omega
  exact k78
theorem nI.kinds {w w' : World}{lv:Value}{F:List gD}(h:nI w lv F)(hs:∀(b:Nat) (c:Array Value) (t:TypeId),w.heap[b]? = some (.cells c t (0,0))->(t=167\/t=3)->w'.heap[b]? = w.heap[b]?):nI w' lv F:=by
 obtain⟨rs,h1,h2⟩:=h
 refine⟨rs,gF h1 fun g hg=>?_,fun i x hx=>?_⟩
 ·obtain⟨_,c,hc⟩:=gC h1 hg
  exact hs g _ _ hc (.inl rfl)
 ·obtain⟨r,r1,r2,r3,r4⟩:=h2 i x hx
  exact⟨r,r1,r2,r3,gF r4 fun g hg=>by
   obtain⟨_,c,hc⟩:=gC r4 hg
   exact hs g _ _ hc (.inr rfl)⟩
structure pP (w:World) (Bw:Nat) (lv:Value) (bh bs N:Nat) (F:List gD) (S:Nat->Bool):Prop where
 blk:w.heap[Bw]? = some (.cells #[lv,.map (some bh),.map (some bs)] 163 (0,0))
 here:kO w bh N S
 spare:kO w bs N (fun _=>false)
 ne:bh≠bs
 pl:nI w lv F
structure yD (F:List gD) (N:Nat):Prop where
 wf:wf F
 len:F.length=N
 small:N<=1000000000
 mask:∀(i:Nat) (x:gD),F[i]? = some x->x.1<65536
 next:∀(i:Nat) (x:gD),F[i]? = some x->x.2.1.length<=2000000000
theorem yD.lt {F:List gD}{N:Nat}(h:yD F N):∀(i:Nat) (x:gD),F[i]? = some x->x.1=0->∀q∈x.2.1,q<N:=by
 intro i x hx h0 q hq
 rcases Nat.eq_zero_or_pos i with rfl | hi
 ·rw[h.wf.1] at hx
  cases hx;cases hq
 ·rcases h.wf.2 i x hi hx with ⟨h1,_⟩ | ⟨_,h2,_⟩
  ·exact absurd h0 h1
  ·rw[<-h.len]
   exact(h2 q hq).1
theorem yD.step {F:List gD}{N:Nat}(h:yD F N){i:Nat}{x:gD}(hx:F[i]? = some x)(h0:x.1≠0):∃q,x.2.1=[q]/\q<N:=by
 have hi:=(zzc.1 hx).1
 rcases Nat.eq_zero_or_pos i with rfl | hp
 ·rw[h.wf.1] at hx
  cases hx;exact absurd rfl h0
 ·rcases h.wf.2 i x hp hx with ⟨_,q,h2,h3,_⟩ | ⟨h1,_⟩
  ·exact⟨q,h2,by rw[<-h.len];omega⟩
  ·exact absurd h1 h0
theorem vO {w:World}{B:Nat}{a b c:Value}{t:TypeId}(h:w.heap[B]? = some (.cells #[a,b,c] t (0,0))):w.cell? ⟨B,0,none⟩=some a/\w.cell? ⟨B,1,none⟩=some b/\w.cell? ⟨B,2,none⟩=some c/\w.frozen? ⟨B,1,none⟩=false/\w.frozen? ⟨B,2,none⟩=false:=by
 have hc:=fun j=>cell_of_row w B j _ _ _ h
 exact⟨hc 0,hc 1,hc 2,by simp[World.frozen?,h],by simp[World.frozen?,h]⟩
def hGq (F:List gD)(Sh:Nat->Bool)(t:Int)(left:Lit->Bool)(q:Nat):Prop:=∃p x r k,Sh p=true/\left (.int .i64 (p:Int))=false/\F[p]? = some x/\mW x.1 t=true/\x.2.1[0]? = some r/\Via F k r q
structure yC (F:List gD) (N:Nat) (lv:Value) (Sh:Nat->Bool) (t:Int) (bh bs rr:Nat) (W1 wr:World) (left:Lit->Bool) (cnt:Nat) (D1:DataW Unit) (S1:Nat->Bool):Prop where
 rg:wr.ranges Tryz.prog 3 unitElem bh rr N D1 left cnt
 hs:∀kl,Maps.has D1 kl=left kl
 sub:∀kl,left kl=true->∃p:Nat,kl=.int .i64 (p:Int)/\Sh p=true
 sp:kO wr bs N S1
 sh:yE F (fun q=>S1 q=true)
 iff:∀q,S1 q=true↔hGq F Sh t left q
 cl:∀(b:Nat) (c:Array Value) (ty:TypeId),W1.heap[b]? = some (.cells c ty (0,0))->wr.heap[b]? = W1.heap[b]?
 bel:Below 0 W1 wr
 same:∀k,k<W1.heap.size->k≠bh->k≠bs->wr.heap[k]? = W1.heap[k]?
theorem mL {w w' : World}{row:Option Nat}(h:w.grownBy w' row):Below 0 w w' := ⟨h.os,h.tape,h.output,h.size,fun k hk=>absurd hk oo⟩
theorem yC.on {F:List gD}{N:Nat}{lv:Value}{Sh:Nat->Bool}{t:Int}{bh bs rr:Nat}{W1 wr:World}{left:Lit->Bool}{cnt:Nat}{D1:DataW Unit}{S1:Nat->Bool}(h:yC F N lv Sh t bh bs rr W1 wr left cnt D1 S1)(hr:W1.heap.size<=rr)(hne:bh≠bs)(hbsr:bs<W1.heap.size)
  {p:Nat} {x:gD} (hp:Sh p=true) (hx:F[p]? = some x) (hwf:(Lit.int .i64 (p:Int)).wf=true) {w1 w2 w3 w4:World} {cnt2:Nat} (g1:wr.grownBy w1 (some rr)) (g2:w1.grownBy w2 (some bh)) (hrg2:w2.ranges Tryz.prog 3 unitElem bh rr N (D1.del (.int .i64 (p:Int))) (fun z=>left z && !z.sameKey (.int .i64 (p:Int))) cnt2)
  (g3:w2.grownBy w3 none) (g4:w3.grownBy w4 (some bs)) {S2:Nat->Bool} (hS2:kO w4 bs N S2) (hG:(mW x.1 t=true/\∃r,x.2.1[0]? = some r/\oY F S1 S2 r)\/(mW x.1 t=false/\S2=S1)) (hlp:left (.int .i64 (p:Int))=true) :
  yC F N lv Sh t bh bs rr W1 w4 (fun z=>left z && !z.sameKey (.int .i64 (p:Int))) cnt2 (D1.del (.int .i64 (p:Int))) S2:=by
 have hrr:w3.ranges Tryz.prog 3 unitElem bh rr N (D1.del (.int .i64 (p:Int))) (fun z=>left z && !z.sameKey (.int .i64 (p:Int))) cnt2:=hrg2.kept g3 (by simp) (by simp)
 have hrr4:w4.ranges Tryz.prog 3 unitElem bh rr N (D1.del (.int .i64 (p:Int))) (fun z=>left z && !z.sameKey (.int .i64 (p:Int))) cnt2:=hrr.kept g4 (by simp[hne]) (by simp;omega)
 have hkey:WideAt.IsKeyLit (.int .i64 (p:Int)):=by trivial
 have hsame:∀z:Lit,z.sameKey (.int .i64 (p:Int))=true↔z=.int .i64 (p:Int):=fun z=>⟨fun e=>WideAt.sameKey_eq e,fun e=>by rw[e];exact WideAt.sameKey_self hkey⟩
 have hcl:∀(b:Nat) (c:Array Value) (ty:TypeId),wr.heap[b]? = some (.cells c ty (0,0))->w4.heap[b]? = wr.heap[b]? := fun b c ty hb=>by
  have hlt:=(zza.1 hb).1
  have e1:w1.heap[b]? = wr.heap[b]? := g1.block b hlt (fun e=>by
   cases e;obtain⟨es,clock,since,seen,c0,_,_,_,_,hri,_⟩:=h.rg;rw[hb] at hri
   cases hri)
  have e2:w2.heap[b]? = w1.heap[b]? := g2.block b (zzl hlt g1.size) (fun e=>by
   cases e;obtain⟨es,clock,since,seen,c0,hbb,_⟩:=h.rg;rw[hb] at hbb
   cases hbb)
  have hlt2:b<w2.heap.size:=zzl hlt (Nat.le_trans g1.size g2.size);have e3:w3.heap[b]? = w2.heap[b]? := g3.block b hlt2 (by simp)
  have e4:w4.heap[b]? = w3.heap[b]? := g4.block b (zzl hlt2 g3.size) (fun e=>by
   cases e
   exact h.sp.notCells hb)
  rw[e4,e3,e2,e1]
 have hleft:∀q:Nat,(left (.int .i64 (q:Int)) && !(Lit.int .i64 (q:Int)).sameKey (.int .i64 (p:Int)))=false↔(left (.int .i64 (q:Int))=false\/q=p):=fun q=>by
  rw[Bool.and_eq_false_iff,Bool.not_eq_false', hsame]
  constructor
  ·rintro (e | e)
   ·exact .inl e
   ·right
    have:(q:Int)=(p:Int):=by injection e
    omega
  ·rintro (e | e)
   ·exact .inl e
   ·exact .inr (by rw[e])
 have hcame:∀q,hGq F Sh t (fun z=>left z && !z.sameKey (.int .i64 (p:Int))) q↔(hGq F Sh t left q\/(mW x.1 t=true/\∃r k,x.2.1[0]? = some r/\Via F k r q)):=fun q=>by
  constructor
  ·rintro⟨p', x', r,k,h1,h2,h3,h4,h5,h6⟩
   rcases (hleft p').1 h2 with e | e
   ·exact .inl ⟨p', x', r,k,h1,e,h3,h4,h5,h6⟩
   ·subst e
    rw[hx] at h3;cases h3;exact .inr ⟨h4,r,k,h5,h6⟩
  ·rintro (⟨p', x', r,k,h1,h2,h3,h4,h5,h6⟩ | ⟨h4,r,k,h5,h6⟩)
   ·exact⟨p', x', r,k,h1,(hleft p').2 (.inl h2),h3,h4,h5,h6⟩
   ·exact⟨p,x,r,k,hp,(hleft p).2 (.inr rfl),hx,h4,h5,h6⟩
 refine⟨hrr4,fun kl=>?_,fun kl hk=>?_,hS2,?_,fun q=>?_,fun b c ty hb=>?_,?_,fun k hk h1 h2=>?_⟩
 ·by_cases e:kl=.int .i64 (p:Int)
  ·rw[e,has_del_same,(hsame _).2 rfl]
   simp
  ·rw[has_del_other e,h.hs]
   have:kl.sameKey (.int .i64 (p:Int))=false:=by
    cases hc:kl.sameKey (.int .i64 (p:Int)) with
    | false=>rfl
    | true=>exact absurd ((hsame kl).1 hc) e
   rw[this]
   simp
 ·simp only[Bool.and_eq_true] at hk
  exact h.sub kl hk.1
 ·rcases hG with ⟨_,r,hr', hG⟩ | ⟨_,e⟩
  ·exact(hG.iff h.sh).1
  ·rw[e];exact h.sh
 ·rw[hcame]
  rcases hG with ⟨ht,r,hr', hG⟩ | ⟨ht,e⟩
  ·rw[(hG.iff h.sh).2,h.iff]
   constructor
   ·rintro (e | ⟨k,e⟩)
    ·exact .inl e
    ·exact .inr ⟨ht,r,k,hr', e⟩
   ·rintro (e | ⟨_,r', k,e1,e2⟩)
    ·exact .inl e
    ·rw[hr'] at e1
     cases e1;exact .inr ⟨k,e2⟩
  ·rw[e,h.iff,ht]
   constructor
   ·intro e;exact .inl e
   ·rintro (e | ⟨e,_⟩)
    ·exact e
    ·cases e
 ·rw[hcl b c ty ((h.cl b c ty hb).trans hb),h.cl b c ty hb]
 ·exact h.bel.trans ((mL g1).trans ((mL g2).trans ((mL g3).trans (mL g4))))
 ·have hb:=h.bel.size
  rw[g4.block k (by have:=g1.size;have:=g2.size;have:=g3.size;omega) (fun e=>by cases e;exact h2 rfl),g3.block k (by have:=g1.size;have:=g2.size;omega) (by simp),g2.block k (by have:=g1.size;omega) (fun e=>by cases e;exact h1 rfl),g1.block k oo (fun e=>by cases e;omega),h.same k hk h1 h2]
end Go.Proofs.YtjkebndkeamijaaGreatDoor
