/-
  PROVED HERE: what the texts DFFilling, DFFilledW say.
-/
import Derived.Test.YtjkebndkeamijaaGreatDoorCF24
set_option maxRecDepth 100000
set_option maxHeartbeats 4000000
namespace Go.Proofs.YtjkebndkeamijaaGreatDoor
def MinS (F:List Place)(S:Nat->Prop)(m:Nat):Prop:=(∃p,S p/\p<F.length/\leastAt F p=m)/\∀p,S p->m<=leastAt F p
theorem shut_zero {F:List Place}(hF:wf F){S:Nat->Prop}(hS:Shut1 F S):∀(n p:Nat),p<=n->S p->p<F.length->leastAt F p=0->S 0:=by
 intro n
 induction n with
 | zero=>intro p hp h _ _;rw[show p=0 by omega] at h;exact h
 | succ n ih=>
  intro p hp h hl h0;rcases Nat.eq_zero_or_pos p with rfl | hpos
  ·exact h
  ·have hx:F[p]? = some F[p]:=zze hl
   rw[leastAt_some hx] at h0;rcases hF.2 p _ hpos hx with ⟨_,q,_,_,h4⟩ | ⟨h1,h2,q,h3,h4,h5⟩
   ·omega
   ·exact ih q oo (hS p _ h hx h1 q h3) (h2 q h3).1 oo
theorem shut_pos {F:List Place}(hF:wf F){S:Nat->Prop}(hS:Shut1 F S){m:Nat}(hm:0<m):∀(n p:Nat),p<=n->S p->p<F.length->leastAt F p=m->∃p' x,S p' /\ F[p']? = some x/\x.1≠0/\x.2.2=m:=by
 intro n
 induction n with
 | zero=>
  intro p hp _ _ h0;rw[show p=0 by omega,leastAt_some hF.1] at h0;simp at h0;omega
 | succ n ih=>
  intro p hp h hl h0;rcases Nat.eq_zero_or_pos p with rfl | hpos
  ·rw[leastAt_some hF.1] at h0
   simp at h0;omega
  ·have hx:F[p]? = some F[p]:=zze hl
   have h0' := h0;rw[leastAt_some hx] at h0;rcases hF.2 p _ hpos hx with ⟨h1,_⟩ | ⟨h1,h2,q,h3,h4,h5⟩
   ·exact⟨p,_,h,hx,h1,h0⟩
   ·exact ih q oo (hS p _ h hx h1 q h3) (h2 q h3).1 oo
theorem via_least {F:List Place}(hF:wf F):∀{k p q:Nat},Via F k p q->leastAt F p<=leastAt F q:=by
 intro k
 induction k with
 | zero=>rintro p q rfl;exact zzb _
 | succ k ih=>
  intro p q h;rcases h with rfl | ⟨x,hx,h0,r,hr,h⟩
  ·exact zzb _
  ·have:=ih h
   rcases Nat.eq_zero_or_pos p with rfl | hp
   ·rw[hF.1] at hx
    cases hx;cases hr
   ·rcases hF.2 p x hp hx with ⟨h1,_⟩ | ⟨_,h2,_⟩
    ·exact absurd h0 h1
    ·rw[leastAt_some hx]
     exact Nat.le_trans (h2 r hr).2 this
theorem step_at {F:List Place}(hF:wf F){p:Nat}{x:Place}(hx:F[p]? = some x)(h0:x.1≠0):∃q,x.2.1=[q]/\q<F.length/\x.2.2=leastAt F q+1:=by
 rcases Nat.eq_zero_or_pos p with rfl | hp
 ·rw[hF.1] at hx
  cases hx;exact absurd rfl h0
 ·rcases hF.2 p x hp hx with ⟨_,q,h1,h2,h3⟩ | ⟨h1,_⟩
  ·exact⟨q,h1,by have:=(zzc.1 hx).1;omega,h3⟩
  ·exact absurd h1 h0
theorem takes_ne {m:Nat}{t:Int}(h:takes m t=true):m≠0:=fun e=>by
 rw[e,takes_zero] at h
 cases h
theorem min_step {F:List Place}(hF:wf F){S:Nat->Prop}{m:Nat}(hm:MinS F S (m+1)){t:Int}{p:Nat}{x:Place}(hp:S p)(hx:F[p]? = some x)(ht:takes x.1 t=true)(hl:x.2.2=m+1):MinS F (stepS F S t) m:=by
 obtain⟨q,h1,h2,h3⟩:=step_at hF hx (takes_ne ht)
 refine⟨⟨q,⟨p,x,q,0,hp,hx,ht,by rw[h1];rfl,rfl⟩,h2,oo⟩,?_⟩
 rintro r ⟨a,y,s,k,ha,hy,hty,hs,hv⟩
 obtain⟨q', g1,g2,g3⟩:=step_at hF hy (takes_ne hty)
 rw[g1] at hs
 cases hs
 have e1:=hm.2 a ha
 rw[leastAt_some hy] at e1
 have e2:=via_least hF hv
 omega
theorem min_zero {F:List Place}(hF:wf F){S:Nat->Prop}(hS:Shut1 F S){m:Nat}(hm:MinS F S m):m=0↔S 0:=by
 constructor
 ·intro e
  obtain⟨⟨p,h1,h2,h3⟩,_⟩:=hm;exact shut_zero hF hS p p (zzb _) h1 h2 oo
 ·intro h
  have:=hm.2 0 h
  rw[leastAt_some hF.1] at this;simpa using this
theorem min_pos {F:List Place}(hF:wf F){S:Nat->Prop}(hS:Shut1 F S){m:Nat}(hm:MinS F S (m+1)):∃p x,S p/\F[p]? = some x/\x.1≠0/\x.2.2=m+1:=by
 obtain⟨⟨p,h1,h2,h3⟩,_⟩:=hm
 exact shut_pos hF hS oo p p (zzb _) h1 h2 h3
theorem min_congr {F:List Place}{S S' : Nat->Prop}(h:∀q,S q↔S' q){m:Nat}(hm:MinS F S m):MinS F S' m:=by
 obtain⟨⟨p,h1,h2⟩,h3⟩:=hm
 exact⟨⟨p,(h p).1 h1,h2⟩,fun q hq=>h3 q ((h q).2 hq)⟩
theorem least_small {F:List Place}(hF:wf F):∀(n p:Nat),p<=n->p<F.length->leastAt F p<=p:=by
 intro n
 induction n with
 | zero=>intro p hp _;rw[show p=0 by omega,leastAt_some hF.1];exact zzn _
 | succ n ih=>
  intro p hp hl;rcases Nat.eq_zero_or_pos p with rfl | hpos
  ·rw[leastAt_some hF.1];exact zzn _
  ·have hx:F[p]? = some F[p]:=zze hl
   rw[leastAt_some hx];rcases hF.2 p _ hpos hx with ⟨_,q,_,h3,h4⟩ | ⟨h1,h2,q,h3,h4,h5⟩
   ·have:=ih q oo oo
    omega
   ·have:=ih q oo oo
    omega
end Go.Proofs.YtjkebndkeamijaaGreatDoor
/- Least6: reg's least at every walk that is somewhere: the fewest types to the end; nothing that lay before is turned. -/
namespace Go.Proofs.YtjkebndkeamijaaGreatDoor
open Go.RowKit Go.Maps
structure LstI (F:List Place) (N:Nat) (S:Nat->Bool) (bh:Nat) (W1 wr:World) (D:DataW Unit) (left:Lit->Bool) (cnt:Nat) (acc:Int):Prop where
 rg:wr.ranges Tryz.prog 3 unitElem bh W1.heap.size N D left cnt
 sub:∀kl,left kl=true->∃p:Nat,kl=.int .i64 (p:Int)/\S p=true
 low:∀p:Nat,S p=true->left (.int .i64 (p:Int))=false->acc<=(leastAt F p:Int)
 met:(acc=9223372036854775807/\∀p:Nat,S p=true->left (.int .i64 (p:Int))=true)\/∃p:Nat,S p=true/\acc=(leastAt F p:Int)
 bel:Below W1.heap.size W1 wr
theorem LstI.on {F:List Place}{N:Nat}{S:Nat->Bool}{bh:Nat}{W1 wr:World}{D:DataW Unit}{left:Lit->Bool}{cnt:Nat}{acc:Int}(h:LstI F N S bh W1 wr D left cnt acc){p:Nat}{x:Place}(hp:S p=true)(hx:F[p]? = some x)(hm:(x.2.2:Int)<=9223372036854775807){w1 w2:World}{cnt1:Nat}(hg1:wr.grownBy w1 (some W1.heap.size))(hrg:w1.ranges Tryz.prog 3 unitElem bh W1.heap.size N D (fun z=>left z && !z.sameKey (.int .i64 (p:Int))) cnt1)(hg2:w1.grownBy w2 none) :
  LstI F N S bh W1 w2 D (fun z=>left z && !z.sameKey (.int .i64 (p:Int))) cnt1 (min acc (x.2.2:Int)):=by
 have hkey:WideAt.IsKeyLit (.int .i64 (p:Int)):=by trivial
 have hsame:∀z:Lit,z.sameKey (.int .i64 (p:Int))=true↔z=.int .i64 (p:Int):=fun z=>⟨fun e=>WideAt.sameKey_eq e,fun e=>by rw[e];exact WideAt.sameKey_self hkey⟩
 have hleft:∀q:Nat,(left (.int .i64 (q:Int)) && !(Lit.int .i64 (q:Int)).sameKey (.int .i64 (p:Int)))=false↔(left (.int .i64 (q:Int))=false\/q=p):=fun q=>by
  exact k50
 have hlx:(leastAt F p:Int)=(x.2.2:Int):=by rw[leastAt_some hx]
 refine⟨hrg.kept hg2 (by simp) (by simp),fun kl hk=>h.sub kl (by rw[Bool.and_eq_true] at hk;exact hk.1),fun q hq hl=>?_,?_,?_⟩
 ·rcases (hleft q).1 hl with e | e
  ·have:=h.low q hq e
   omega
  ·subst e
   omega
 ·right
  rcases h.met with ⟨e,_⟩ | ⟨q,hq,e⟩
  ·exact⟨p,hp,oo⟩
  ·by_cases hc:acc<=(x.2.2:Int)
   ·exact⟨q,hq,oo⟩
   ·exact⟨p,hp,oo⟩
 ·exact k76
theorem least_calls (F:List Place)(N:Nat)(hF:Sound1 F N)(Bw bh bs:Nat)(lv:Value)(Sh:Nat->Bool)(w:World)(h:WalkAt w Bw lv bh bs N F Sh)(p0:Nat)(hp0:Sh p0=true) :
  Calls Tryz.prog 127 #[.pointer (some ⟨Bw,0,none⟩)] w fun e w' => ∃m:Nat,e=.returned (.int .i64 (m:Int))/\MinS F (fun p=>Sh p=true) m/\Below w.heap.size w w' := by
 have hF0:0<F.length:=hF.wf.pos
 obtain⟨g,cap,rfl,hcell⟩:=h.pl.slice hF0
 obtain⟨c0,c1,_,_,_⟩:=cells3 h.blk
 have hBlt:Bw<w.heap.size:=(zza.1 h.blk).1
 obtain⟨D,hown,hDN,hD⟩:=id h.here
 have hglt:g<w.heap.size:=by
  obtain⟨rs,q1,_⟩:=id h.pl;exact(owns_lt q1 (g:=g) rfl).1
 have hsm:F.length<=1000000000:=by have:=hF.small;have:=hF.len;omega
 have HPL:Hid (∀p:Nat,Sh p=true->∃x a n c,F[p]? = some x/\x.2.2<=1000000000/\p<F.length/\∀X:World,Below w.heap.size w X->X.cell? ⟨Bw,0,none⟩=some (.slice (some ⟨g,0,none⟩) F.length cap)/\X.cell? ⟨g,p * 3,none⟩=some (.int .u16 (x.1:Int))/\X.cell? ⟨g,p * 3+1,none⟩=some (.slice a n c)/\X.cell? ⟨g,p * 3+2,none⟩=some (.int .i64 (x.2.2:Int))):=by
  intro p hp;have hpN:p<N:=hDN p hp;obtain⟨x,hx⟩:∃x,F[p]? = some x:=⟨_,zze (by rw[hF.len];exact hpN)⟩;obtain⟨t0,t2,a,n,c,t1,_⟩:=hcell p x hx;(have hpl:p<F.length:=by rw[hF.len];exact hpN);have hls:=least_small hF.wf p p (zzb _) hpl;rw[leastAt_some hx] at hls;exact⟨x,a,n,c,hx,oo,hpl,fun X hX=>⟨(hX.cell (p:=⟨Bw,0,none⟩) hBlt).trans c0,(hX.cell (p:=⟨g,p * 3,none⟩) hglt).trans t0,(hX.cell (p:=⟨g,p * 3+1,none⟩) hglt).trans t1,(hX.cell (p:=⟨g,p * 3+2,none⟩) hglt).trans t2⟩⟩
 have HST:Hid (∀w0:World,w0.ranges Tryz.prog 3 unitElem bh w.heap.size N D (Maps.has D) (Maps.size D)->w.grownBy w0 none->LstI F N Sh bh w w0 D (Maps.has D) (Maps.size D) 9223372036854775807):=by
  intro w0 hrg g0;(have hall:∀p:Nat,Sh p=true->Maps.has D (.int .i64 (p:Int))=true:=fun p hp=>(hD (.int .i64 (p:Int))).2 ⟨p,rfl,hp⟩);exact⟨hrg,fun kl hk=>(hD kl).1 hk,fun p hp hl=>(by rw[hall p hp] at hl;cases hl),.inl ⟨rfl,hall⟩,(zzd _ w).grown g0 (zzb _) (fun k e=>by cases e)⟩
 have HEND:Hid (∀(wr:World) (left:Lit->Bool) (cnt:Nat) (acc:Int),LstI F N Sh bh w wr D left cnt acc->(∀kl,left kl=false)->∃m:Nat,acc=(m:Int)/\MinS F (fun p=>Sh p=true) m/\Below w.heap.size w wr):=by
  intro wr left cnt acc hI hl;rcases hI.met with ⟨_,e⟩ | ⟨p,hp,e⟩
  ·have:=e p0 hp0
   rw[hl] at this;cases this
  ·refine⟨leastAt F p,e,⟨⟨p,hp,by rw[hF.len];exact hDN p hp,rfl⟩,fun q hq=>?_⟩,hI.bel⟩
   have:=hI.low q hq (hl _)
   omega
 have HB:Hid (∀(wr:World) (left:Lit->Bool) (cnt:Nat) (acc:Int),LstI F N Sh bh w wr D left cnt acc->0<=acc/\acc<=9223372036854775807):=by
  intro wr left cnt acc hI;rcases hI.met with ⟨e,_⟩ | ⟨p,hp,e⟩
  ·omega
  ·have hpl:p<F.length:=by rw[hF.len];exact hDN p hp
   have:=least_small hF.wf p p (zzb _) hpl
   omega
 have hFi:(F.length:Int)<=1000000000:=by omega
 clear hD hDN h hF hcell c0 hp0 hsm
 go_enter Tryz.func127,Tryz.ntmps127
 go_wp2_with (first
  | (at_range;refine wpList_range_own _ rfl _ 161 rfl 3 172 lawI Tryz.underlying161 _ bh N D rfl hown ?_;intro w0 hrg0 hg0 hs0)
  | fail)
 go_frame
 have HI0:Hid (LstI F N Sh bh w w0 D (Maps.has D) (Maps.size D) 9223372036854775807):=HST.out w0 hrg0 hg0
 clear hrg0 hg0 hs0 hown c1 HST
 go_loopw [3] (fun v wr=>∃(left:Lit->Bool) (cnt:Nat) (acc:Int),v=.int .i64 acc/\LstI F N Sh bh w wr D left cnt acc) (fun _ wr=>wr.rangeLeft bh w.heap.size)
 case atStart=>exact⟨_,_,_,rfl,HI0.out⟩
 case round=>
  obtain⟨left,cnt,acc,rfl,hI⟩:=hrel;have hrg:=hI.rg;obtain⟨hac0,hac1⟩:=HB.out _ _ _ _ hI;have HI:Hid (LstI F N Sh bh w wr D left cnt acc):=hI;clear hI HI0
  go_wp2_with (first
   | (at_next;refine wpList_next_ranges _ rfl _ rfl 3 lawI unitElem (Value.int .i64) (fun _:Unit=>Value.agg #[]) (fun key kl hkey=>by obtain⟨x,e,_⟩:=keyOf_int_inv Tryz.underlying3 hkey;exact⟨x,e⟩) (fun v y hv=>⟨(),(unitElem_inv hv).1⟩) bh w.heap.size N _ _ _ rfl hrg ?_ ?_)
   | fail)
  ·intro _ hl0
   have HE:=HEND.out wr left cnt acc HI.out hl0;have HE' : Hid (∃m:Nat,acc=(m:Int)/\MinS F (fun p=>Sh p=true) m/\Below w.heap.size w wr):=HE;clear HE HEND HPL HI hrg hl0 HB;go_wp2;go_ret;obtain⟨m,e1,e2,e3⟩:=HE'.out;exact⟨m,by rw[e1];rfl,e2,e3⟩
  ·intro x c kl y w1 cnt1 hkey hlk hv hat hrg1 hlt hg1 hs1 hen
   obtain⟨rfl,hwx⟩:=key_nat hkey;obtain⟨p,ep,hp⟩:=HI.out.sub _ hlk;(obtain rfl:x=(p:Int):=by injection ep);obtain⟨x,a,n,c', hx,hm,hpN,hX⟩:=HPL.out p hp;have hB1:Below w.heap.size w w1:=HI.out.bel.grown hg1 HI.out.bel.size (fun k e=>by cases e;exact zzb _);obtain⟨x0,x1,x2,x3⟩:=hX w1 hB1;(have hpi:(p:Int)<(F.length:Int):=by omega);(have hp0:(0:Int)<=(p:Int):=by omega);(have hmi:(x.2.2:Int)<=1000000000:=by omega);have hmn:(0:Int)<=(x.2.2:Int):=by omega
   have HON:Hid (LstI F N Sh bh w w1 D (fun z=>left z && !z.sameKey (.int .i64 (p:Int))) cnt1 (min acc (x.2.2:Int))/\w1.rangeLeft bh w.heap.size<wr.rangeLeft bh w.heap.size):=by
    have hon:=HI.out.on hp hx oo hg1 hrg1 ⟨rfl,rfl,rfl,zzb _,fun _ _ _=>rfl⟩;refine⟨hon,?_⟩;rw[hon.rg.left_eq,HI.out.rg.left_eq];exact hlt
   generalize (x.2.2:Int)=lx at *;clear hX HPL HEND hx hat hv hkey ep hlk hp hrg1 hg1 HI hrg hs1 hlt hm hwx HB;go_wp2
   all_goals
    go_roundw
    case rel=>exact⟨_,_,min acc lx,by first | rfl | rw[show (if lx<acc then lx else acc)=min acc lx by split<;>omega],HON.out.1⟩
    case measure=>exact HON.out.2
end Go.Proofs.YtjkebndkeamijaaGreatDoor
/- Types6F: reg's types with Fill's own test: what the places that need as many would take; nothing that lay before is turned. -/
namespace Go.Proofs.YtjkebndkeamijaaGreatDoor
open Go.RowKit Go.Maps
theorem fits_calls (left Bl:Nat)(m:Int)(a:Option Addr)(n c l:Nat)(w:World)(hlt:Bl<w.heap.size)(hc:w.cell? ⟨Bl,0,none⟩=some (.int .i64 (left:Int))):Calls Tryz.prog 130 #[.agg #[.int .u16 m,.slice a n c,.int .i64 (l:Int)],.pointer (some ⟨Bl,0,none⟩)] w fun e w' => e=.returned (.bool ((l:Int)==(left:Int)))/\w.grownBy w' none:=by
 have HG:Hid (∀o,w.grownBy (w.alloc o) none):=fun o=>World.grownBy_alloc w o none
 go_enter Tryz.func130,Tryz.ntmps130
 go_wp2
 go_ret
 first | exact HG.out _ | exact⟨rfl,HG.out _⟩
theorem types_fill (F:List Place)(N:Nat)(hF:Sound1 F N)(Bw bh bs:Nat)(lv:Value)(Sh:Nat->Bool)(w:World)(h:WalkAt w Bw lv bh bs N F Sh)(Bl:Nat)(ok:Nat->Bool)(HF:∀(X:World),Below w.heap.size w X->∀(m:Int) (a:Option Addr) (n c l:Nat),Calls Tryz.prog 130 #[.agg #[.int .u16 m,.slice a n c,.int .i64 (l:Int)],.pointer (some ⟨Bl,0,none⟩)] X fun e w' => e=.returned (.bool (ok l))/\X.grownBy w' none) :
  Calls Tryz.prog 129 #[.pointer (some ⟨Bw,0,none⟩),.func (.func 130) #[] #[.pointer (some ⟨Bl,0,none⟩)]] w fun e w' => ∃acc:Nat,e=.returned (.int .u16 (acc:Int))/\acc<65536/\(∀j,acc.testBit j=true↔∃(p:Nat) (x:Place),Sh p=true/\F[p]? = some x/\ok x.2.2=true/\x.1.testBit j=true)/\Below w.heap.size w w' := by
 have hF0:0<F.length:=hF.wf.pos
 obtain⟨g,cap,rfl,hcell⟩:=h.pl.slice hF0
 obtain⟨c0,c1,_,_,_⟩:=cells3 h.blk
 have hBlt:Bw<w.heap.size:=(zza.1 h.blk).1
 obtain⟨D,hown,hDN,hD⟩:=id h.here
 have hglt:g<w.heap.size:=by
  obtain⟨rs,q1,_⟩:=id h.pl;exact(owns_lt q1 (g:=g) rfl).1
 have HPL:Hid (∀p:Nat,Sh p=true->∃x a n c,F[p]? = some x/\x.1<65536/\p<F.length/\∀X:World,Below w.heap.size w X->X.cell? ⟨Bw,0,none⟩=some (.slice (some ⟨g,0,none⟩) F.length cap)/\X.cell? ⟨g,p * 3,none⟩=some (.int .u16 (x.1:Int))/\X.cell? ⟨g,p * 3+1,none⟩=some (.slice a n c)/\X.cell? ⟨g,p * 3+2,none⟩=some (.int .i64 (x.2.2:Int))):=by
  intro p hp;have hpN:p<N:=hDN p hp;obtain⟨x,hx⟩:∃x,F[p]? = some x:=⟨_,zze (by rw[hF.len];exact hpN)⟩;obtain⟨t0,t2,a,n,c,t1,_⟩:=hcell p x hx;exact⟨x,a,n,c,hx,hF.mask p x hx,by rw[hF.len];exact hpN,fun X hX=>⟨(hX.cell (p:=⟨Bw,0,none⟩) hBlt).trans c0,(hX.cell (p:=⟨g,p * 3,none⟩) hglt).trans t0,(hX.cell (p:=⟨g,p * 3+1,none⟩) hglt).trans t1,(hX.cell (p:=⟨g,p * 3+2,none⟩) hglt).trans t2⟩⟩
 have HST:Hid (∀w0:World,w0.ranges Tryz.prog 3 unitElem bh w.heap.size N D (Maps.has D) (Maps.size D)->w.grownBy w0 none->TypI F N Sh ok bh w w0 D (Maps.has D) (Maps.size D) 0):=by
  intro w0 hrg g0;refine⟨hrg,fun kl hk=>(hD kl).1 hk,fun j=>?_,oo,(zzd _ w).grown g0 (zzb _) (fun k e=>by cases e)⟩
  constructor
  ·intro e;simp at e
  ·rintro⟨p,x,h1,h2,_⟩
   have:=(hD (.int .i64 (p:Int))).2 ⟨p,rfl,h1⟩
   rw[h2] at this;cases this
 have HEND:Hid (∀(wr:World) (left:Lit->Bool) (cnt acc:Nat),TypI F N Sh ok bh w wr D left cnt acc->(∀kl,left kl=false)->acc<65536/\(∀j,acc.testBit j=true↔∃(p:Nat) (x:Place),Sh p=true/\F[p]? = some x/\ok x.2.2=true/\x.1.testBit j=true)/\Below w.heap.size w wr):=by
  intro wr left cnt acc hI hl;refine⟨hI.lt,fun j=>?_,hI.bel⟩;rw[hI.iff];exact⟨fun ⟨p,x,h1,_,h3,h4,h5⟩=>⟨p,x,h1,h3,h4,h5⟩,fun ⟨p,x,h1,h3,h4,h5⟩=>⟨p,x,h1,hl _,h3,h4,h5⟩⟩
 have hFi:(F.length:Int)<=1000000000:=by have:=hF.small;have:=hF.len;omega
 clear hD hDN h hF hcell c0
 go_enter Tryz.func129,Tryz.ntmps129
 go_wp2_with (first
  | (at_range;refine wpList_range_own _ rfl _ 161 rfl 3 172 lawI Tryz.underlying161 _ bh N D rfl hown ?_;intro w0 hrg0 hg0 hs0)
  | fail)
 go_frame
 have HI0:Hid (TypI F N Sh ok bh w w0 D (Maps.has D) (Maps.size D) 0):=HST.out w0 hrg0 hg0
 clear hrg0 hg0 hs0 hown c1 HST
 go_loopw [5] (fun v wr=>∃(left:Lit->Bool) (cnt acc:Nat),v=.int .u16 (acc:Int)/\TypI F N Sh ok bh w wr D left cnt acc) (fun _ wr=>wr.rangeLeft bh w.heap.size)
 case atStart=>exact⟨_,_,0,rfl,HI0.out⟩
 case round=>
  obtain⟨left,cnt,acc,rfl,hI⟩:=hrel;have hrg:=hI.rg;have HI:Hid (TypI F N Sh ok bh w wr D left cnt acc):=hI;clear hI HI0
  go_wp2_with (first
   | (at_next;refine wpList_next_ranges _ rfl _ rfl 3 lawI unitElem (Value.int .i64) (fun _:Unit=>Value.agg #[]) (fun key kl hkey=>by obtain⟨x,e,_⟩:=keyOf_int_inv Tryz.underlying3 hkey;exact⟨x,e⟩) (fun v y hv=>⟨(),(unitElem_inv hv).1⟩) bh w.heap.size N _ _ _ rfl hrg ?_ ?_)
   | fail)
  ·intro _ hl0
   have HE:=HEND.out wr left cnt acc HI.out hl0;have HE' : Hid (acc<65536/\(∀j,acc.testBit j=true↔∃(p:Nat) (x:Place),Sh p=true/\F[p]? = some x/\ok x.2.2=true/\x.1.testBit j=true)/\Below w.heap.size w wr):=HE;clear HE HEND HPL HI hrg hl0;go_wp2;go_ret;exact⟨acc,rfl,HE'.out⟩
  ·intro x c kl y w1 cnt1 hkey hlk hv hat hrg1 hlt hg1 hs1 hen
   obtain⟨rfl,hwx⟩:=key_nat hkey;obtain⟨p,ep,hp⟩:=HI.out.sub _ hlk;(obtain rfl:x=(p:Int):=by injection ep);obtain⟨x,a,n,c', hx,hm,hpN,hX⟩:=HPL.out p hp;have hB1:Below w.heap.size w w1:=HI.out.bel.grown hg1 HI.out.bel.size (fun k e=>by cases e;exact zzb _);obtain⟨x0,x1,x2,x3⟩:=hX w1 hB1;(have hpi:(p:Int)<(F.length:Int):=by omega);have hp0:(0:Int)<=(p:Int):=by omega
   have HON:Hid (∀w2:World,w1.grownBy w2 none->TypI F N Sh ok bh w w2 D (fun z=>left z && !z.sameKey (.int .i64 (p:Int))) cnt1 (if ok x.2.2=true then acc ||| x.1 else acc)/\w2.rangeLeft bh w.heap.size<wr.rangeLeft bh w.heap.size/\w2.cell? ⟨Bw,0,none⟩=some (.slice (some ⟨g,0,none⟩) F.length cap)/\w2.cell? ⟨g,p * 3,none⟩=some (.int .u16 (x.1:Int))/\w2.cell? ⟨g,p * 3+1,none⟩=some (.slice a n c')/\w2.cell? ⟨g,p * 3+2,none⟩=some (.int .i64 (x.2.2:Int))):=fun w2 hg2=>by
    have hon:=HI.out.on hp hx hm hg1 hrg1 hg2;refine⟨hon,?_,hX w2 (hB1.grown hg2 hB1.size (fun k e=>by cases e))⟩;rw[hon.rg.left_eq,HI.out.rg.left_eq];exact hlt
   have hor:=u16_or_nat acc x.1 HI.out.lt hm;have HCL:=HF w1 hB1 (x.1:Int) a n c' x.2.2;have HRL:Hid (ok x.2.2=ok x.2.2):=rfl;generalize ok x.2.2=okx at *;clear hX HPL HEND hx hat hv hkey ep hlk hp hrg1 hg1 HI hrg hs1 hlt hm hwx HRL;(go_wp2_with fail);refine HCL.mono ?_;rintro e w2 ⟨rfl,hg2⟩;obtain⟨hon,hlft,y0,y1,y2,y3⟩:=HON.out w2 hg2;have HON2:Hid (TypI F N Sh ok bh w w2 D (fun z=>left z && !z.sameKey (.int .i64 (p:Int))) cnt1 (if okx=true then acc ||| x.1 else acc)):=hon;clear hon HON hg2 x0 x1 x2 x3 HCL;cases okx with
   | true=>
    go_wp2_with fail
    go_roundw
    case rel=>exact⟨_,_,acc ||| x.1,by first | rfl | rw[hor],HON2.out⟩
    case measure=>exact hlft
   | false=>
    go_wp2_with fail
    go_roundw
    case rel=>exact⟨_,_,acc,rfl,HON2.out⟩
    case measure=>exact hlft
end Go.Proofs.YtjkebndkeamijaaGreatDoor
/- Fill6: reg's Fill where Check lets the tree by: what it returns; nothing that lay before is turned. -/
namespace Go.Proofs.YtjkebndkeamijaaGreatDoor
open Go.RowKit Go.Maps
def Greedy (F:List Place):Nat->(Nat->Prop)->List Int->Prop
 | 0,_,xs=>xs=[]
 | m+1,S,xs=>∃(j:Nat) (r:List Int),xs=(j:Int)::r/\(∃p x,S p/\F[p]? = some x/\x.2.2=m+1/\x.1.testBit j=true)/\(∀i,i<j->¬∃p x,S p/\F[p]? = some x/\x.2.2=m+1/\x.1.testBit i=true)/\Greedy F m (stepS F S (j:Int)) r
theorem greedy_congr {F:List Place}:∀(m:Nat) {S S' : Nat->Prop} {xs:List Int},(∀q,S q↔S' q)->Greedy F m S xs->Greedy F m S' xs:=by
 intro m
 induction m with
 | zero=>intro S S' xs _ h;exact h
 | succ m ih=>
  rintro S S' xs hS ⟨j,r,e,⟨p,x,h1,h2⟩,h3,h4⟩;refine⟨j,r,e,⟨p,x,(hS p).1 h1,h2⟩,fun i hi ⟨p,x,g1,g2⟩=>h3 i hi ⟨p,x,(hS p).2 g1,g2⟩,ih (fun q=>stepS_congr hS _ q) h4⟩
theorem places_of {W1 wr:World}{Bw b1 b2 N:Nat}{lv:Value}{F:List Place}{c:Array Value}{S1 S2:Nat->Bool}(h:Places W1 lv F)(hw:W1.heap[Bw]? = some (.cells c 163 (0,0)))(h1:SetAt W1 b1 N S1)(h2:SetAt W1 b2 N S2)(hf:∀k,k<W1.heap.size->k≠Bw->k≠b1->k≠b2->wr.heap[k]? = W1.heap[k]?):Places wr lv F :=
 h.kinds fun b c' t hb ht=>hf b (zza.1 hb).1 (fun e=>by
  subst e;rw[hw] at hb;cases hb
  rcases ht with e | e<;>exact absurd e (by decide)) (fun e=>by subst e;exact h1.notCells hb) (fun e=>by subst e;exact h2.notCells hb)
theorem SetAt.same {w w' : World}{b N:Nat}{S:Nat->Bool}(h:SetAt w b N S)(hb:w'.heap[b]? = w.heap[b]?):SetAt w' b N S:=by
 obtain⟨D,⟨es,ck,hc,r1⟩,r2⟩:=h
 exact⟨D,⟨es,ck,hb.trans hc,r1⟩,r2⟩
structure FillI (w W1 wr:World) (Bw b1 b2:Nat) (lv:Value) (N:Nat) (F:List Place) (S:Nat->Bool) (v:Value) (xs:List Int) (Bl m:Nat):Prop where
 wk:∃bh bs,((bh=b1/\bs=b2)\/(bh=b2/\bs=b1))/\WalkAt wr Bw lv bh bs N F S
 fr:∀k,k<W1.heap.size->k≠Bw->k≠b1->k≠b2->wr.heap[k]? = W1.heap[k]?
 row:wr.ownsRow W1.heap.size 3 1 v xs.length (intsV xs)
 cell:wr.heap[Bl]? = some (.cells #[.int .i64 (m:Int)] 3 (0,0))
 lo:W1.heap.size<=Bl
 ne:∀g,v.ownBlock=some g->g≠Bl
 bel:Below w.heap.size w wr
 sz:W1.heap.size<=wr.heap.size
structure FillW (w W1:World) (Bw b1 b2:Nat) (lv:Value) (N:Nat) (F:List Place):Prop where
 pl:Places W1 lv F
 blk:∃c,W1.heap[Bw]? = some (.cells c 163 (0,0))
 s1:∃S,SetAt W1 b1 N S
 s2:∃S,SetAt W1 b2 N S
 w0:w.heap.size<=Bw
 w1:w.heap.size<=b1
 w2:w.heap.size<=b2
theorem FillW.places {w W1 wr:World}{Bw b1 b2 N:Nat}{lv:Value}{F:List Place}(h:FillW w W1 Bw b1 b2 lv N F)(hf:∀k,k<W1.heap.size->k≠Bw->k≠b1->k≠b2->wr.heap[k]? = W1.heap[k]?):Places wr lv F:=by
 obtain⟨c,hc⟩:=h.blk
 obtain⟨S1,h1⟩:=h.s1
 obtain⟨S2,h2⟩:=h.s2
 exact places_of h.pl hc h1 h2 hf
theorem FillW.lts {w W1:World}{Bw b1 b2 N:Nat}{lv:Value}{F:List Place}(h:FillW w W1 Bw b1 b2 lv N F):Bw<W1.heap.size/\b1<W1.heap.size/\b2<W1.heap.size:=by
 obtain⟨c,hc⟩:=h.blk
 obtain⟨S1,h1⟩:=h.s1
 obtain⟨S2,h2⟩:=h.s2
 exact⟨(zza.1 hc).1,h1.lt,h2.lt⟩
theorem FillI.walk {w W1 wr w' : World}{Bw b1 b2:Nat}{lv:Value}{N:Nat}{F:List Place}{S:Nat->Bool}{v:Value}{xs:List Int}{Bl m:Nat}(h:FillI w W1 wr Bw b1 b2 lv N F S v xs Bl m)(hW:FillW w W1 Bw b1 b2 lv N F)(hs:∀k,k<W1.heap.size->w'.heap[k]? = wr.heap[k]?) :
  (∃bh bs,((bh=b1/\bs=b2)\/(bh=b2/\bs=b1))/\WalkAt w' Bw lv bh bs N F S)/\∀k,k<W1.heap.size->k≠Bw->k≠b1->k≠b2->w'.heap[k]? = W1.heap[k]?:=by
 obtain⟨l0,l1,l2⟩:=hW.lts
 have hf:∀k,k<W1.heap.size->k≠Bw->k≠b1->k≠b2->w'.heap[k]? = W1.heap[k]? := fun k hk n0 n1 n2=>(hs k hk).trans (h.fr k hk n0 n1 n2)
 obtain⟨bh,bs,hb,hk⟩:=h.wk
 refine⟨⟨bh,bs,hb,(hs _ l0).trans hk.blk,hk.here.same (hs _ oo),hk.spare.same (hs _ oo),hk.ne,hW.places hf⟩,hf⟩
theorem FillI.below {w W1 wr w' : World}{Bw b1 b2:Nat}{lv:Value}{N:Nat}{F:List Place}{S:Nat->Bool}{v:Value}{xs:List Int}{Bl m:Nat}(h:FillI w W1 wr Bw b1 b2 lv N F S v xs Bl m)(hW:FillW w W1 Bw b1 b2 lv N F)(hB:Below wr.heap.size wr w'):FillI w W1 w' Bw b1 b2 lv N F S v xs Bl m:=by
 have hBl:Bl<wr.heap.size:=(zza.1 h.cell).1
 obtain⟨h1,h2⟩:=h.walk hW (w' := w') (fun k hk=>hB.block k (zzl hk h.sz))
 exact⟨h1,h2,owns_same h.row fun g hg=>hB.block g (owns_lt h.row hg).1,(hB.block _ hBl).trans h.cell,h.lo,h.ne,h.bel.trans (hB.mono h.bel.size),Nat.le_trans h.sz hB.size⟩
theorem FillI.append {w W1 wr w' : World}{Bw b1 b2:Nat}{lv:Value}{N:Nat}{F:List Place}{S:Nat->Bool}{v v' : Value}{xs:List Int}{Bl m:Nat}{t:Int}(h:FillI w W1 wr Bw b1 b2 lv N F S v xs Bl m)(hW:FillW w W1 Bw b1 b2 lv N F)(hg:wr.grownBy w' v.ownBlock)(hown:w'.ownsRow W1.heap.size 3 1 v' (xs.length+1) (intsV (xs++[t])))(hv:v'.ownBlock=v.ownBlock\/v'.ownBlock=some wr.heap.size):FillI w W1 w' Bw b1 b2 lv N F S v' (xs++[t]) Bl m:=by
 have hBl:Bl<wr.heap.size:=(zza.1 h.cell).1
 have hge:∀g,v.ownBlock=some g->W1.heap.size<=g:=fun g e=>owned_base h.row e
 obtain⟨h1,h2⟩:=h.walk hW (w' := w') (fun k hk=>hg.block k (zzl hk h.sz) (fun e=>by have:=hge k e.symm;omega))
 refine⟨h1,h2,by simpa using hown,(hg.block _ hBl (fun e=>h.ne _ e.symm rfl)).trans h.cell,h.lo,fun g e=>?_,h.bel.grown hg h.bel.size (fun k e=>Nat.le_trans ?_ (hge k e)),Nat.le_trans h.sz hg.size⟩
 ·rcases hv with hv | hv
  ·exact h.ne g (by rw[<-hv];exact e)
  ·rw[hv] at e
   cases e;omega
 ·have:=hW.lts
  have:=hW.w0
  omega
theorem FillI.take {w W1 wr w' : World}{Bw b1 b2:Nat}{lv:Value}{N:Nat}{F:List Place}{S S' : Nat->Bool}{v:Value}{xs:List Int}{Bl m bh bs:Nat}(h:FillI w W1 wr Bw b1 b2 lv N F S v xs Bl m)(hW:FillW w W1 Bw b1 b2 lv N F)(hb:(bh=b1/\bs=b2)\/(bh=b2/\bs=b1))(hk:WalkAt w' Bw lv bs bh N F S')(h0:Below 0 wr w')(hs:∀k,k<wr.heap.size->k≠Bw->k≠bh->k≠bs->w'.heap[k]? = wr.heap[k]?):FillI w W1 w' Bw b1 b2 lv N F S' v xs Bl m:=by
 have hBl:Bl<wr.heap.size:=(zza.1 h.cell).1
 obtain⟨l0,l1,l2⟩:=hW.lts
 have g0:=hW.w0
 have g1:=hW.w1
 have g2:=hW.w2
 have hlo:=h.lo
 have hsz:=h.sz
 refine⟨⟨bs,bh,oo,hk⟩,fun k hk n0 n1 n2=>(hs k oo n0 oo oo).trans (h.fr k hk n0 n1 n2),owns_same h.row fun g hg=>hs g (owns_lt h.row hg).1 ?_ ?_ ?_,(hs _ hBl oo oo oo).trans h.cell,h.lo,h.ne,h.bel.trans ⟨h0.os,h0.tape,h0.output,h0.size,fun k hk=>hs k (zzl hk h.bel.size) oo oo oo⟩,Nat.le_trans h.sz h0.size⟩
 all_goals
  have:=owned_base h.row hg
  omega
theorem FillI.next {w W1 wr:World}{Bw b1 b2:Nat}{lv:Value}{N:Nat}{F:List Place}{S:Nat->Bool}{v:Value}{xs:List Int}{Bl m:Nat}(h:FillI w W1 wr Bw b1 b2 lv N F S v xs Bl m)(hW:FillW w W1 Bw b1 b2 lv N F)(m' : Nat):FillI w W1 (wr.alloc (.cells #[.int .i64 (m' : Int)] 3)) Bw b1 b2 lv N F S v xs wr.heap.size m' := by
 have h' := h.below hW ((zzd _ wr).alloc (zzb _) (.cells #[.int .i64 (m' : Int)] 3))
 exact⟨h'.wk,h'.fr,h'.row,World.alloc_heap_new wr _,h.sz,fun g e=>by have:=(owns_lt h.row e).1;omega,h'.bel,h'.sz⟩
end Go.Proofs.YtjkebndkeamijaaGreatDoor
/- FillC: reg's Fill where Check lets the tree by: what it returns; nothing that lay before is turned. -/
namespace Go.Proofs.YtjkebndkeamijaaGreatDoor
open Go.RowKit Go.Maps
theorem run_append_one (w:World)(base:Nat)(v:Value)(n:Nat)(xs:List Int)(hown:w.ownsRow base 3 1 v n (intsV xs))(b:Nat)(t:Int)(hb:w.heap[b]? = some (.cells #[.int .i64 t] 3 (0,0)))(h63:n+1<=1000000)(hbase:base<=w.heap.size) :
  ∃v' w', (Builtin.append_ #[61,61] 61 #[v,.slice (some ⟨b,0,none⟩) 1 1]).run Tryz.prog w=.ok v' w' /\ w'.ownsRow base 3 1 v' (n+1) (intsV (xs++[t]))/\w.grownBy w' v.ownBlock/\(v'.ownBlock=v.ownBlock\/v'.ownBlock=some w.heap.size):=by
 obtain⟨i0,hi,hz0,hz1,hz2⟩:=info_parts infoInt
 obtain⟨v', w', hr,q1,q2,_,q3⟩:=run_append_own_at (P:=Tryz.prog) w base 61 61 3 i0 _ 1 8 Tryz.underlying61 hi hz0 hz1 hz2 rfl (by decide) v n _ hown ⟨b,0,none⟩ 1 1 (intsV [t]) rfl (fun j u hj=>by
  cases j with
  | zero=>simp[intsV] at hj;subst hj;exact cell_of_row w b 0 _ _ _ hb
  | succ j=>simp[intsV] at hj) (fun u hu=>by
  simp[intsV] at hu;rw[hu]
  rfl) (by unfold maxLen;omega) oo hbase
 rw[intsV_append] at q1
 exact⟨v', w', hr,q1,q2,q3⟩
def Filled (gs:List Grp)(n:Nat)(t:DataW Unit)(zs:List Int)(w w' : World)(e:Ending):Prop :=
 Below w.heap.size w w' /\ ((¬PreD gs n t zs/\e=.returned (.tuple #[.slice none 0 0,.bool false])) ∨
  (PreD gs n t zs/\∃(a:Option Addr) (c:Nat) (xs:List Int) (m:Nat),e=.returned (.tuple #[.slice a xs.length c,.bool true])/\Ints w' a xs.length xs/\w'.ownsRow 0 3 1 (.slice a xs.length c) xs.length (intsV xs)/\xs.length=m/\m<=300/\MinS (planF gs n t) (afterS (planF gs n t) (startS (planF gs n t) (firstF gs n t)) zs) m/\Greedy (planF gs n t) m (afterS (planF gs n t) (startS (planF gs n t) (firstF gs n t)) zs) xs/\LangD gs n t (zs++xs)))
theorem filled_none {w:World}{base n:Nat}{v:Value}{zs:List Int}(h:w.ownsRow base 3 1 v n (intsV zs)){a:Option Addr}{c:Nat}(hv:v=.slice a n c):a=none->c=0:=by
 intro e
 subst e
 rcases h.2 with ⟨e,_⟩ | ⟨g,cap,cur,e,_⟩
 ·rw[hv] at e
  injection e
 ·rw[hv] at e
  injection e with e1
  cases e1
theorem low_least {acc k q i:Nat}(h:acc=2 ^ k * (2 * q+1))(hi:i<k):acc.testBit i=false:=by
 rw[h,Nat.mul_comm,Nat.testBit_mul_two_pow]
 simp
 omega
theorem low_has {acc k q:Nat}(h:acc=2 ^ k * (2 * q+1)):acc.testBit k=true:=by
 rw[h,Nat.mul_comm,Nat.testBit_mul_two_pow]
 simp
theorem fill_calls (n:Nat)(t:DataW Unit)(v:Value)(ga:Option Addr)(gl gc:Nat)(gs:List Grp)(za:Option Addr)(zl zc:Nat)(zs:List Int)(w:World)(h:Ex w n t v)(hN:named n t)(hG:Groups w ga gl gs)(hZ:Ints w za zl zs)(hc:chk n t gs=0)(hT:Tab w)(hw0:0<w.heap.size) :
  Calls Tryz.prog 96 #[v,.slice ga gl gc,.slice za zl zc] w fun e w' => Filled gs n t zs w w' e:=by
 have hb0:∀o,Below w.heap.size w (w.alloc o):=fun o=>(zzd _ w).alloc (zzb _) _
 obtain⟨hsound,hfirst⟩:=plan_sound hc
 obtain⟨_,_,hsz200⟩:=chk_zero hc
 have hlen:(planF gs n t).length<=201:=by
  obtain⟨h1,h2,h3⟩:=chk_zero hc;obtain⟨_,_,_,_,_,a6⟩:=layD_good gs n t h1 0 [((0,[],0):Place)] wf_one (by simp)
  have:(planF gs n t).length<=1+size subs n t:=a6
  omega
 have HAL:Hid (∀ys,afterS (planF gs n t) (startS (planF gs n t) (firstF gs n t)) ys 0↔LangD gs n t ys):=fun ys=>after_lang hc ys
 have HTZ:Hid (∀W:World,Below w.heap.size w W->∀k q:Nat,2 ^ k * (2 * q+1)<65536->Calls Tryz.prog 128 #[.int .u16 ((2 ^ k * (2 * q+1):Nat):Int)] W fun e w' => e=.returned (.int .i64 (k:Int))/\w' = W):=fun W hW k q h=>tz_calls k q W h (hT.below hW hw0)
 have HW:Hid (∀o,Calls Tryz.prog 86 #[v,.slice ga gl gc,.slice za zl zc] (w.alloc o) fun e w' => ∃(Bw:Nat) (i:Nat) (lv:Value) (b1 b2:Nat) (S:Nat->Bool),e=.returned (.tuple #[.pointer (some ⟨Bw,0,none⟩),.int .i64 (i:Int)])/\Below w.heap.size w w' /\ WalkAt w' Bw lv b1 b2 (planF gs n t).length (planF gs n t) S/\FillW w w' Bw b1 b2 lv (planF gs n t).length (planF gs n t)/\((¬PreD gs n t zs/\∀q,S q=false)\/(PreD gs n t zs/\(∃p,S p=true)/\∀q,S q=true↔afterS (planF gs n t) (startS (planF gs n t) (firstF gs n t)) zs q))):=fun o=>by
  refine(walked_calls n t v ga gl gc gs za zl zc zs (w.alloc o) (Ex.below (hb0 o) _ _ _ h) hN (hG.below (hb0 o)) (hZ.below (hb0 o)) hc).mono ?_;rintro e W ⟨Bw,S,i,rfl,⟨hBw,lv,bh,bs,hbh,hbs,hWk⟩,⟨r1,r2,r3⟩,hB⟩;have hB' : Below w.heap.size w W:=(hb0 o).trans (hB.mono (by simp));simp only[World.size_alloc] at hBw hbh hbs;refine⟨Bw,i,lv,bh,bs,S,rfl,hB', hWk,⟨hWk.pl,⟨_,hWk.blk⟩,⟨_,hWk.here⟩,⟨_,hWk.spare⟩,oo,oo,oo⟩,?_⟩;rcases r3 with ⟨_,e⟩ | ⟨e1,e2,e⟩
  ·by_cases hp:PreD gs n t zs
   ·obtain⟨q,hq⟩:=id hp
    exact .inr ⟨hp,⟨q,(e q).2 hq⟩,e⟩
   ·refine .inl ⟨hp,fun q=>?_⟩
    cases hq:S q with
    | false=>rfl
    | true=>exact absurd ⟨q,(e q).1 hq⟩ hp
  ·refine .inl ⟨fun hp=>?_,e2⟩
   rw[<-List.take_append_drop (i+1) zs] at hp;obtain⟨q,hq⟩:=pre_less hp;exact e q hq
 obtain⟨k,s,a,len,cap,rfl⟩:∃k s a len cap,v=.agg #[.int .i64 k,.string s,.slice a len cap]:=by
  exact k106
 unfold Filled
 generalize hPD:PreD gs n t zs=PD at *
 generalize planF gs n t=F at *
 generalize firstF gs n t=first at *
 generalize LangD gs n t=LA at *
 clear h hN hG hZ hc hb0 hT hw0 hPD hsz200
 have hmf:∀(fn:Fn) (first cap:Array Value) (w:World),(Instr.makeFunc fn first cap).run Tryz.prog w=.ok (.func fn first cap) w:=fun _ _ _ _=>rfl
 have HSO:Hid (Sound1 F F.length/\F.length<=201/\first<F.length):=⟨hsound,hlen,hfirst⟩
 clear hsound hlen hfirst
 go_enter Tryz.func96,Tryz.ntmps96
 go_wp2_with fail
 refine(HW.out _).mono ?_
 rintro e W1 ⟨Bw,i,lv,b1,b2,S0,rfl,hB1,hWk,hFW,hcase⟩
 clear HW
 obtain⟨c0,c1,_⟩:=cells3 hWk.blk
 obtain⟨D,hown,_,hD⟩:=id hWk.here
 have hsz:=size_zero hown hD
 clear hD
 rcases hcase with ⟨hno,hemp⟩ | ⟨hyes,⟨p0,hp0⟩,hS0⟩
 ·have hd:(((Maps.size D:Nat):Int)==0)=true:=by rw[hsz.2 hemp];rfl
  have HE:Hid (¬PD/\Below w.heap.size w W1):=⟨hno,hB1⟩;clear hno hemp hsz hWk hFW hB1 HAL HTZ HSO hmf
  go_wp2_with (first
   | (at_len;refine wpList_len_own _ rfl _ 161 rfl 3 172 Tryz.underlying161 _ _ F.length D rfl hown ?_)
   | fail)
  go_ret2;exact⟨HE.out.2,.inl ⟨HE.out.1,rfl⟩⟩
 ·have hd:(((Maps.size D:Nat):Int)==0)=false:=by
   rw[beq_eq_false_iff_ne];intro e;have h0:Maps.size D=0:=by omega
   have:=hsz.1 h0 p0
   rw[hp0] at this;cases this
  have HLS:=least_calls F F.length HSO.out.1 Bw b1 b2 lv S0 W1 hWk p0 hp0;have HBW:Hid (Below w.heap.size w W1):=hB1;have HFW:Hid (FillW w W1 Bw b1 b2 lv F.length F):=hFW;have HWK:Hid (WalkAt W1 Bw lv b1 b2 F.length F S0):=hWk;have HY:Hid (PD/\∀q,S0 q=true↔afterS F (startS F first) zs q):=⟨hyes,hS0⟩;clear hsz hyes hS0 hWk hFW hB1 hp0
  go_wp2_with (first
   | (at_len;refine wpList_len_own _ rfl _ 161 rfl 3 172 Tryz.underlying161 _ _ F.length D rfl hown ?_)
   | fail)
  refine HLS.mono ?_;rintro e W2 ⟨m0,rfl,hmin,hB2⟩
  have hm0:m0<=201:=by
   obtain⟨⟨p,_,hp,e⟩,_⟩:=hmin
   have:=least_small HSO.out.1.wf p p (zzb _) hp
   have:=HSO.out.2.1
   omega
  have HI0:Hid (FillI w W1 (W2.alloc (.cells #[.int .i64 (m0:Int)] 3)) Bw b1 b2 lv F.length F S0 (.slice none 0 0) [] W2.heap.size m0):=by
   have hW12:∀k,k<W1.heap.size->W2.heap[k]? = W1.heap[k]? := fun k hk=>hB2.block k hk
   have hx:FillI w W1 (W2.alloc (.cells #[.int .i64 (m0:Int)] 3)) Bw b1 b2 lv F.length F S0 (.slice none 0 0) [] W2.heap.size m0:=by
    have hB2' : Below W1.heap.size W1 (W2.alloc (.cells #[.int .i64 (m0:Int)] 3)):=hB2.alloc hB2.size _;(have hf:∀k,k<W1.heap.size->(W2.alloc (.cells #[.int .i64 (m0:Int)] 3)).heap[k]? = W1.heap[k]? := fun k hk=>hB2'.block k hk);have hk:=HWK.out;obtain⟨l0,l1,l2⟩:=HFW.out.lts;exact⟨⟨b1,b2,.inl ⟨rfl,rfl⟩,(hf _ l0).trans hk.blk,hk.here.same (hf _ l1),hk.spare.same (hf _ l2),hk.ne,HFW.out.places (fun k h _ _ _=>hf k h)⟩,fun k h _ _ _=>hf k h,World.ownsRow_nil ..,World.alloc_heap_new W2 _,hB2.size,fun g e=>(by cases e),HBW.out.trans (hB2'.mono HBW.out.size),hB2'.size⟩
   exact hx
  have HM0:Hid (MinS F (fun p=>S0 p=true) m0):=hmin;(have hm0i:(m0:Int)<=201:=by omega);clear HLS hmin hB2 hown hd c0 c1 HBW HWK;go_wp2_with fail
  go_loopg [10,11] (m0+1) (fun gk u u2 wr=>∃v S xs m Bl,v=u/\u2=.pointer (some ⟨Bl,0,none⟩)/\m<gk/\FillI w W1 wr Bw b1 b2 lv F.length F S v xs Bl m/\MinS F (fun p=>S p=true) m/\(∀q,S q=true↔afterS F (startS F first) (zs++xs) q)/\(∀ys,Greedy F m (fun p=>S p=true) ys->Greedy F m0 (fun p=>S0 p=true) (xs++ys))/\xs.length+m=m0)
  case atStart=>exact⟨_,S0,[],m0,_,rfl,rfl,oo,HI0.out,HM0.out,by rw[List.append_nil];exact HY.out.2,fun ys h=>h,by simp⟩
  case round=>
   obtain⟨v,S,xs,m,Bl,rfl,rfl,hgk,hI,hmin,hS,hgr,hxm⟩:=hrel;clear HI0;have hcell:wr.cell? ⟨Bl,0,none⟩=some (.int .i64 (m:Int)):=cell_of_row wr Bl 0 _ _ _ hI.cell;have hBl:Bl<wr.heap.size:=(zza.1 hI.cell).1;cases m with
   | zero=>
    have hz:=(min_zero HSO.out.1.wf (by rw[show (fun p=>S p=true)=afterS F (startS F first) (zs++xs) from funext fun q=>propext (hS q)];exact afterS_shut (startS_shut F first) _) hmin).1 rfl;obtain⟨a', c', rfl,hints⟩:=owned_ints hI.row oo
    have HE:Hid (Below w.heap.size w wr/\PD/\Ints wr a' xs.length xs/\wr.ownsRow 0 3 1 (.slice a' xs.length c') xs.length (intsV xs)/\xs.length=m0/\m0<=300/\MinS F (afterS F (startS F first) zs) m0/\Greedy F m0 (afterS F (startS F first) zs) xs/\LA (zs++xs)):=by
     refine⟨hI.bel,HY.out.1,hints,⟨hI.row.1,hI.row.2.imp id (fun ⟨g,cap,cur,h1,_,h3⟩=>⟨g,cap,cur,h1,zzn _,h3⟩)⟩,oo,oo,min_congr HY.out.2 HM0.out,?_,(HAL.out _).1 ((hS 0).1 hz)⟩
     have:=hgr [] rfl
     rw[List.append_nil] at this;exact greedy_congr m0 HY.out.2 this
    clear hI hmin hS hgr hints hz HM0 HY HAL HTZ HSO HFW hmf;(go_wp2_with fail);go_ret2;obtain⟨e1,e2,e3,e4,e5,e6,e7,e8,e9⟩:=HE.out;exact⟨e1,.inr ⟨e2,a', c', xs,m0,rfl,e3,e4,e5,e6,e7,e8,e9⟩⟩
   | succ m=>
    obtain⟨bh,bs,hbb,hWr⟩:=hI.wk;(have hsh:Shut1 F (fun p=>S p=true):=by rw[show (fun p=>S p=true)=afterS F (startS F first) (zs++xs) from funext fun q=>propext (hS q)];exact afterS_shut (startS_shut F first) _);have HTY:=types_fill F F.length HSO.out.1 Bw bh bs lv S wr hWr Bl (fun l=>(l:Int)==((m+1:Nat):Int)) (fun X hX m' a n c l=>fits_calls (m+1) Bl m' a n c l X (zzl hBl hX.size) ((hX.cell (p:=⟨Bl,0,none⟩) hBl).trans hcell))
    have HR1:Hid (∀(W3:World) (acc:Nat),acc<65536->(∀j,acc.testBit j=true↔∃(p:Nat) (x:Place),S p=true/\F[p]? = some x/\((x.2.2:Int)==((m+1:Nat):Int))=true/\x.1.testBit j=true)->Below wr.heap.size wr W3->∃k q:Nat,acc=2 ^ k * (2 * q+1)/\k<16/\FillI w W1 W3 Bw b1 b2 lv F.length F S v xs Bl (m+1)/\MinS F (stepS F (fun p=>S p=true) (k:Int)) m/\∀ys,Greedy F m (stepS F (fun p=>S p=true) (k:Int)) ys->Greedy F m0 (fun p=>S0 p=true) (xs++(k:Int)::ys)):=by
     intro W3 acc hacc hbits hB3;obtain⟨p,x,h1,h2,h3,h4⟩:=min_pos HSO.out.1.wf hsh hmin
     have hne:acc≠0:=by
      intro e;have hx1:=HSO.out.1.mask p x h2;obtain⟨k', q', e'⟩:=low_bit x.1 x.1 (zzb _) h3
      have:=(hbits k').2 ⟨p,x,h1,h2,by rw[h4];simp,low_has e'⟩
      rw[e] at this;simp at this
     obtain⟨k,q,hkq⟩:=low_bit acc acc (zzb _) hne;have hk16:=bit_small hacc (low_has hkq);obtain⟨p', x', g1,g2,g3,g4⟩:=(hbits k).1 (low_has hkq);have g3' : x'.2.2=m+1:=by have:=beq_iff_eq.1 g3;omega
     have htk:takes x'.1 (k:Int)=true:=by
      unfold takes
      simp
      exact⟨oo,g4⟩
     refine⟨k,q,hkq,hk16,hI.below HFW.out hB3,min_step HSO.out.1.wf hmin g1 g2 htk g3', fun ys hy=>hgr _ ⟨k,ys,rfl,⟨p', x', g1,g2,g3', g4⟩,fun i hi ⟨p2,x2,f1,f2,f3,f4⟩=>?_,hy⟩⟩
     have:=(hbits i).2 ⟨p2,x2,f1,f2,by rw[f3];simp,f4⟩
     rw[low_least hkq hi] at this;cases this
    (have hmi:((m+1:Nat):Int)<=201:=by omega);(have hmp:(0:Int)<((m+1:Nat):Int):=by omega);have HSQ:Hid (∀q,S q=true↔afterS F (startS F first) (zs++xs) q):=hS;have HXM:Hid (xs.length+(m+1)=m0/\m+1<gk):=⟨hxm,hgk⟩;clear hI hmin hS hgr hsh hWr hxm hgk;obtain⟨M,hM⟩:∃M:Int,M=((m+1:Nat):Int):=⟨_,rfl⟩;rw[<-hM] at hcell hmi hmp HTY;have HMM:Hid (M=((m+1:Nat):Int)):=hM;clear hM;(go_wp2_with fail);refine HTY.mono ?_;rintro e W3 ⟨acc,rfl,hacc,hbits,hB3⟩;rw[HMM.out] at hbits;obtain⟨k,q,hkq,hk16,hI3,hmin3,hgr3⟩:=HR1.out W3 acc hacc hbits hB3
    have HTZ3:Calls Tryz.prog 128 #[.int .u16 (acc:Int)] W3 fun e w' => e=.returned (.int .i64 (k:Int))/\w' = W3:=by
     rw[hkq] at hacc ⊢;exact HTZ.out W3 hI3.bel k q hacc
    have HGR3:Hid (MinS F (stepS F (fun p=>S p=true) (k:Int)) m/\(∀ys,Greedy F m (stepS F (fun p=>S p=true) (k:Int)) ys->Greedy F m0 (fun p=>S0 p=true) (xs++(k:Int)::ys))/\k<16):=⟨hmin3,hgr3,hk16⟩;have hI4:=hI3.below HFW.out ((zzd _ W3).alloc (zzb _) (.cells #[.int .i64 (k:Int)] 3));obtain⟨v', W5,hrun,hown5,hg5,hv5⟩:=run_append_one _ W1.heap.size v xs.length xs hI4.row W3.heap.size (k:Int) (World.alloc_heap_new W3 _) (by have:=HXM.out;omega) hI4.sz;have hI5:=hI4.append HFW.out hg5 hown5 hv5;obtain⟨bh5,bs5,hbb5,hW5⟩:=hI5.wk;have HTK:=take_calls F F.length HSO.out.1 Bw bh5 bs5 lv S (k:Int) W5 hW5;have HI5:Hid (FillI w W1 W5 Bw b1 b2 lv F.length F S v' (xs++[(k:Int)]) Bl (m+1)):=hI5;have HB5:Hid ((bh5=b1/\bs5=b2)\/(bh5=b2/\bs5=b1)):=hbb5;clear HTY HR1 hbits hB3 hkq hI3 hmin3 hgr3 hI4 hown5 hg5 hv5 hI5 hW5 hbb5 hbb HTZ hacc hcell hBl hk16;(go_wp2_with fail);refine HTZ3.mono ?_;rintro e W ⟨rfl,rfl⟩;clear HTZ3
    go_wp2_with (first
     | (at_builtin;refine wpList_run_append rfl (.tmp 36) (.tmp 38) 61 rfl _ _ v' W5 rfl rfl hrun ?_)
     | fail)
    refine HTK.mono ?_;rintro e W6 ⟨rfl,S', hW6,hS6,hb06,hsm6⟩;have hI6:=HI5.out.take HFW.out HB5.out hW6 hb06 hsm6;(have hcell6:W6.cell? ⟨Bl,0,none⟩=some (.int .i64 M):=by rw[HMM.out];exact cell_of_row W6 Bl 0 _ _ _ hI6.cell);have HI7:Hid (FillI w W1 (W6.alloc (.cells #[.int .i64 (m:Int)] 3)) Bw b1 b2 lv F.length F S' v' (xs++[(k:Int)]) W6.heap.size m):=hI6.next HFW.out m;have HS6:Hid (∀q,S' q=true↔stepS F (fun p=>S p=true) (k:Int) q):=hS6;(have hM1:M - 1=(m:Int):=by have:=HMM.out;omega);clear hI6 hW6 hS6 hb06 hsm6 HTK hrun HI5;go_wp2_with fail
    go_roundg (m+1)
    case measure=>exact HXM.out.2
    case rel=>
     refine⟨_,S', xs++[(k:Int)],m,W6.heap.size,rfl,rfl,oo,HI7.out,min_congr (fun q=>(HS6.out q).symm) HGR3.out.1,fun q=>?_,fun ys hy=>?_,?_⟩
     ·rw[HS6.out q,<-List.append_assoc,afterS_snoc]
      exact stepS_congr HSQ.out _ q
     ·rw[List.append_assoc]
      exact HGR3.out.2.1 ys (greedy_congr m HS6.out hy)
     ·have:=HXM.out.1
      rw[List.length_append,List.length_singleton];omega
end Go.Proofs.YtjkebndkeamijaaGreatDoor
namespace Go.Proofs.YtjkebndkeamijaaGreatDoor
open Go.RowKit
theorem out_named (s:ByteArray):named 200 (outTree s):=by
 unfold outTree
 cases h:outT s with
 | none=>exact emptyT_named
 | some t=>
  show named 200 t
  unfold outT at h
  split at h
  ·cases h
  ·rename_i hs
   split at h
   ·cases h
   ·rename_i t' hr
    split at h
    ·cases h
     unfold readT at hr
     split at hr
     ·cases hr
      exact emptyT_named
     ·split at hr
      ·rename_i t2 ha
       cases hr;exact(altN_named _ _ _ _ ha (by rw[bts_length];omega)).1 200
      ·cases hr
    ·cases h
end Go.Proofs.YtjkebndkeamijaaGreatDoor
