/-
  PROVED HERE: what the texts DARJoin, DARSgn, DARPure say.
-/
import Derived.Test.YtjkebndkeamijaaGreatDoorCA27
set_option maxRecDepth 100000
set_option maxHeartbeats 8000000
namespace Go.Proofs.YtjkebndkeamijaaGreatDoor
open Go.RowKit
def hDn (w:World)(a:Option Addr)(len m lo:Nat)(ts:List (DataW Unit))(rs:List Raw):Prop :=
 ∃b o,a=some ⟨b,o,none⟩/\b<w.heap.size/\ts.length=len/\lH (fun b=>lo<=b) w m ts rs/\∀j u,(mR rs)[j]? = some u->w.cell? ((⟨b,o,none⟩:Addr).add j)=some u
theorem hDn.at {w:World}{a:Option Addr}{len m lo:Nat}{ts:List (DataW Unit)}{rs:List Raw}(h:hDn w a len m lo ts rs){i:Nat}(hi:i<len):∃b o x kx nx ax lx cx,a=some ⟨b,o,none⟩/\b<w.heap.size/\ts[i]? = some x/\rs[i]? = some ((kx,nx,ax,lx,cx):Raw)/\ExA (fun b=>lo<=b) w m x (.agg #[.int .i64 kx,.string nx,.slice ax lx cx])/\∀W:World,Below w.heap.size w W->W.cell? ⟨b,o+i * 3,none⟩=some (.int .i64 kx)/\W.cell? ⟨b,o+i * 3+1,none⟩=some (.string nx)/\W.cell? ⟨b,o+i * 3+2,none⟩=some (.slice ax lx cx):=by
 obtain⟨b,o,rfl,hb,hl,hr,hc⟩:=h
 have hx:ts[i]? = some (ts[i]'(by omega)):=zze oo
 obtain⟨r,hr1,hr2⟩:=hr.2 i _ hx
 obtain⟨f0,f1,f2⟩:=gAr rs i r hr1
 have g0:=hc _ _ f0
 have g1:=hc _ _ f1
 have g2:=hc _ _ f2
 rw[rD] at g0 g1 g2
 obtain⟨kx,nx,ax,lx,cx⟩:=r
 rw[<-Nat.add_assoc] at g1 g2
 exact⟨b,o,_,kx,nx,ax,lx,cx,rfl,hb,hx,hr1,hr2,fun W hW=>⟨(hW.cell (p:=⟨b,_,none⟩) hb).trans g0,(hW.cell (p:=⟨b,_,none⟩) hb).trans g1,(hW.cell (p:=⟨b,_,none⟩) hb).trans g2⟩⟩
theorem gYg (k:Int){ts:List (DataW Unit)}{i:Nat}{x:DataW Unit}(h:ts[i]? = some x):jK k (ts.take (i+1))=jK k (ts.take i)++(if iE x=k then subs x else [x]):=by
 rw[List.take_add_one,h]
 exact wV k _ x
theorem gYh (k:Int):∀(ts:List (DataW Unit)) (i:Nat),(jK k (ts.take i)).length<=(jK k ts).length:=by
 intro ts
 induction ts with
 | nil=>intro i;simp[jK]
 | cons x r ih=>
  intro i;cases i with
  | zero=>exact zzn _
  | succ i=>
   rw[List.take_succ_cons,jK,jK,List.length_append,List.length_append]
   have:=ih i
   omega
theorem lG {w w' : World}{b:Nat}(h:w'.heap[b]? = w.heap[b]?)(j:Nat):w'.cell? ⟨b,j,none⟩=w.cell? ⟨b,j,none⟩:=by
 unfold World.cell?
 rw[h]
structure Jn (k:Int) (w wr:World) (m lo:Nat) (F:List (DataW Unit)) (ev:Option Addr) (en ec:Nat):Prop where
 below:Below w.heap.size w wr
 zero:wr.heap[w.heap.size]? = some (.cells #[.int .i64 0,.string ⟨#[]⟩,.slice none 0 0] 69 (0,0))
 var:wr.heap[w.heap.size+1]? = some (.cells #[.int .i64 k,.string ⟨#[]⟩,.slice ev en ec] 69 (0,0))
 len:F.length=en
 rows:∃qs,wr.ownsRow (w.heap.size+2) 69 3 (.slice ev en ec) en (mR qs)/\lH (fun b=>lo<=b) w m F qs
theorem Jn.append {k:Int}{w wr:World}{m lo:Nat}{F us:List (DataW Unit)}{ev:Option Addr}{en ec:Nat}(h:Jn k w wr m lo F ev en ec)(_hlo:lo<=w.heap.size){W:World}(hW:Below wr.heap.size wr W){qs:List Raw}(hr:lH (fun b=>lo<=b) w m us qs){len:Nat}(hl:us.length=len)(hb:en+len<=1000)(b o cp:Nat)(hc:∀j u,(mR qs)[j]? = some u->W.cell? ((⟨b,o,none⟩:Addr).add j)=some u) :
  ∃ev' en' ec' W3,(Builtin.append_ #[67,67] 67 #[.slice ev en ec,.slice (some ⟨b,o,none⟩) len cp]).run Tryz.prog W=.ok (.slice ev' en' ec') W3/\W3.heap[w.heap.size+1]? = some (.cells #[.int .i64 k,.string ⟨#[]⟩,.slice ev en ec] 69 (0,0))/\(∀j,j<w.heap.size->W3.heap[j]? = w.heap[j]?)/\Jn k w (W3.setCell ⟨w.heap.size+1,2,none⟩ (.slice ev' en' ec')) m lo (F++us) ev' en' ec' := by
 obtain⟨qs0,hown,hrows⟩:=h.rows
 have hs:=h.below.size
 have hsz:=hW.size
 have hvl:w.heap.size+1<wr.heap.size:=(zza.1 h.var).1
 have hown2:W.ownsRow (w.heap.size+2) 69 3 (.slice ev en ec) en (mR qs0):=uM hown fun j hj=>hW.block j (kQ hown hj).2
 obtain⟨v', W3,hrun,ho,hgr,hat⟩:=wY hown2 oo b o len cp (by rw[hr.1,hl]) hc oo
 have hv' : ∃ev' ec', v' = .slice ev' (en+len) ec' := by
  obtain⟨_,⟨h1,h2⟩ | ⟨g,cap,_,h1,_⟩⟩:=ho
  ·exact⟨none,0,by rw[h1,h2]⟩
  ·exact⟨_,_,h1⟩
 obtain⟨ev', ec', rfl⟩:=hv'
 have hgs:=hgr.size
 have hblk:∀j,j<wr.heap.size->j<w.heap.size+2->W3.heap[j]? = wr.heap[j]? := fun j h1 h2=>by
  rw[hgr.block j oo (fun e=>by have:=(kQ hown2 e.symm).1;omega),hW.block j h1]
 have hvar3:W3.heap[w.heap.size+1]? = some (.cells #[.int .i64 k,.string ⟨#[]⟩,.slice ev en ec] 69 (0,0)):=(hblk _ hvl oo).trans h.var
 have hbe:∀j,j<w.heap.size->W3.heap[j]? = w.heap[j]? := fun j hj=>(hblk j oo oo).trans (h.below.block j hj)
 refine⟨ev', _,ec', W3,hrun,hvar3,hbe,?_,?_,?_,by rw[List.length_append,h.len,hl],qs0++qs,?_,?_⟩
 ·refine⟨hgr.os.trans (hW.os.trans h.below.os),hgr.tape.trans (hW.tape.trans h.below.tape),hgr.output.trans (hW.output.trans h.below.output),by simp;omega,fun j hj=>?_⟩
  rw[zzh _ _ _ _ (by show j≠w.heap.size+1;omega)];exact hbe j hj
 ·rw[zzh _ _ _ _ (by show w.heap.size≠w.heap.size+1;omega)]
  exact(hblk _ oo oo).trans h.zero
 ·exact heap_setCell_same W3 (w.heap.size+1) 2 _ _ _ hvar3
 ·refine uM ho fun j hj=>?_
  have:=(kQ ho hj).1
  exact zzh _ _ _ _ (by show j≠w.heap.size+1;omega)
 ·exact hrows.append hr
theorem k98{p:Prop}(h:p:=by
  have hb4:=(hJ3.below.block b hb);exact⟨(lG hb4 _).trans hcw.1,(lG hb4 _).trans hcw.2.1,(lG hb4 _).trans hcw.2.2⟩
  ):p:=h
theorem k21{p:Prop}(h:p:=by
  go_simp;refine hK.out _ _ hSa (fun _=>?_);clear hK K
  try simp only[gQ]
  refine gT 7 kr rfl (fun K hK=>?_);rw[if_pos (by rfl)];refine sM _ _ 67 rfl _ _ (.slice ev' en' ec') W3 rfl rfl hrun ?_;refine hK.out _ _ hS3 (fun _=>?_);clear hK K
  try simp only[Act.put,List.setIfInBounds_toArray]
  refine jQ 8 (some 45) (v:=?_) hS3 ?_ ?_
  rotate_left
  ·intro w hSw
   obtain⟨s1,s2,s3⟩:=hSw;go_simp
   with_reducible rfl
  try simp only[Act.put]
  refine gT 9 kr rfl (fun K hK=>?_);rw[if_pos (by rfl)];go_simp;refine hK.out _ _ hS4 (fun _=>?_);clear hK K
  try simp only[gQ]
  refine wpAnyH_done kr ?_ _;go_wp2
  go_roundw
  case rel=>exact⟨i+1,oo,rfl,ev', en', ec', HJ3.out⟩
  case measure=>simp[intOf];omega
  ):p:=h
theorem gTc (k:Int)(hk:k=2\/k=3)(a:Option Addr)(len cap m lo:Nat)(ts:List (DataW Unit))(rs:List Raw)(w:World)(hL:hDn w a len m lo ts rs)(h1:1<=len)(hG:∀x∈ts,lC x)(hlo:lo<=w.heap.size)(hbd:(jK k ts).length<=1000) :
  Calls Tryz.prog 157 #[.int .i64 k,.slice a len cap] w fun e w' => Below w.heap.size w w' /\ ∃r m', e=.returned (jI r)/\ExA (fun b=>lo<=b) w' m' (jV k ts) (jI r):=by
 have hmx:Tryz.prog.follows .mixedOrders=true:=by kernel_rfl
 have hlen:ts.length=len:=by obtain⟨_,_,_,_,h,_⟩:=hL;exact h
 have HB1:Hid (∀cs,Below w.heap.size w ((w.alloc (.cells #[.int .i64 0,.string ⟨#[]⟩,.slice none 0 0] 69)).setRow w.heap.size cs)):=fun cs=>below_setRow ((zzd _ w).alloc (zzb _) _) (zzb _) cs
 by_cases hone:len=1
 ·subst hone
  obtain⟨b,o,x,kx,nx,ax,lx,cx,rfl,hb,hx,hr,hX,hc⟩:=hL.at (i:=0) oo
  have hj:jV k ts=x:=by
   match ts,hlen,hx with
   | [y],_,hx=>cases hx;rfl
  rw[hj];have hcc:=hc (w.alloc (.cells #[.int .i64 0,.string ⟨#[]⟩,.slice none 0 0] 69)) ((zzd _ w).alloc (zzb _) _);simp only[Nat.zero_mul,Nat.add_zero] at hcc;obtain⟨d0,d1,d2⟩:=hcc;(have HX:Hid (∀cs,ExA (fun b=>lo<=b) ((w.alloc (.cells #[.int .i64 0,.string ⟨#[]⟩,.slice none 0 0] 69)).setRow w.heap.size cs) m x (.agg #[.int .i64 kx,.string nx,.slice ax lx cx])):=fun cs=>ExA.kept (by rw[size_setRow];simp) (fun b hb hA=>⟨hA,(setRow_other _ _ _ _ oo).trans (zzf w _ b hb)⟩) _ _ _ hX);clear hc hX hL hG hbd hj;go_enter Tryz.func157,Tryz.ntmps157;(go_wp2_with (refine wpList_store_row rfl 69 _ _ rfl w.heap.size #[.int .i64 kx,.string nx,.slice ax lx cx] rfl rfl 69 _ (heap_alloc_new w _) gE rfl (jF _ _ _ _ _) ?_));refine bodyPost_ret (results_cell_row rfl _ _ w.heap.size 69 #[.int .i64 kx,.string nx,.slice ax lx cx] (0,0) _ rfl (setRow_heap _ _ _ _ _ _ (heap_alloc_new w _)) Tryz.underlying69 rfl gE) rfl ?_;exact⟨HB1.out _,(kx,nx,ax,lx,cx),m,rfl,HX.out _⟩
 ·have hob:((len:Int)==1)=false:=by rw[beq_eq_false_iff_ne];omega
  have hj:jV k ts=node k ⟨#[]⟩ (jK k ts):=by
   match ts,hlen with
   | [],h=>simp at h;omega
   | [y],h=>simp at h;omega
   | x::y::r,_=>rfl
  rw[hj]
  have HS:Hid (Jn k w ((w.alloc (.cells #[.int .i64 0,.string ⟨#[]⟩,.slice none 0 0] 69)).alloc (.cells #[.int .i64 k,.string ⟨#[]⟩,.slice none 0 0] 69)) m lo (jK k (ts.take 0)) none 0 0):=by
   refine⟨((zzd _ w).alloc (zzb _) _).alloc (by simp) _,?_,?_,rfl,[],World.ownsRow_nil _ _ _ _,lH.nil _ _ _⟩
   ·rw[zzf _ _ _ (by simp)]
    exact heap_alloc_new w _
   ·have:=heap_alloc_new (w.alloc (.cells #[.int .i64 0,.string ⟨#[]⟩,.slice none 0 0] 69)) (.cells #[.int .i64 k,.string ⟨#[]⟩,.slice none 0 0] 69)
    rw[World.size_alloc] at this;exact this
  have HLR:Hid (hDn w a len m lo ts rs):=hL;have HGG:Hid ((∀x∈ts,lC x)/\lo<=w.heap.size/\(jK k ts).length<=1000/\(k=2\/k=3)):=⟨hG,hlo,hbd,hk⟩;have HT:Hid (ts.take len=ts):=zzm oo;(have hl1000:len<=1000:=by have:=gPm hk ts hG;omega);clear hL hG hlo hbd hk hj HB1;go_enter Tryz.func157,Tryz.ntmps157;go_wp2
  go_loopw [6] (fun u w' => ∃j:Nat,j<=len/\u=.int .i64 (j:Int)/\∃ev en ec,Jn k w w' m lo (jK k (ts.take j)) ev en ec) (fun u _=>len - (intOf u).toNat)
  case atStart=>exact⟨0,oo,rfl,none,0,0,HS.out⟩
  case round=>
   obtain⟨i,hi,rfl,ev,en,ec,hJ⟩:=hrel;clear HS;have hvar:=hJ.var;have c2:wr.cell? ⟨w.heap.size+1,2,none⟩=some (.slice ev en ec):=cell_of_row wr _ 2 _ _ _ hvar;have f2:wr.frozen? ⟨w.heap.size+1,2,none⟩=false:=by simp[World.frozen?,hvar]
   by_cases hlt:i<len
   ·obtain⟨b,o,x,kx,nx,ax,lx,cx,rfl,hb,hx,hr,hX,hc⟩:=HLR.out.at hlt
    obtain⟨d0,d1,d2⟩:=hc wr hJ.below;have hkx:iE x=kx:=(ExA.node (r:=(kx,nx,ax,lx,cx)) hX).1;have hlx:(subs x).length=lx:=(ExA.node (r:=(kx,nx,ax,lx,cx)) hX).2;have hft:=gYg k hx;have hfb:=gYh k ts (i+1);obtain⟨hG,hlo,hbd,hk⟩:=HGG.out;have hGx:=hG x (zzj hx);have hJl:=hJ.len
    by_cases hkk:kx=k
    ·subst hkk
     rw[if_pos hkx] at hft;have hl2:=(hGx.2 (by rw[hkx];exact hk)).2;rw[hft,List.length_append,hlx,hJl] at hfb;cases m with
     | zero=>exact hX.elim
     | succ m=>
     obtain⟨-,-,-,b2,o2,qs,rfl,hb2,-,hr2,hc2⟩:=hX.kids oo
     obtain⟨ev', en', ec', W3,hrun,hv3,hb3,hJ3⟩:=hJ.append hlo ((zzd _ wr).drew) (hr2.upto (Nat.le_succ _)) hlx oo b2 o2 cx (fun j u hj=>by
      have h5:=hc2 j u hj;rw[rD] at h5 ⊢
      exact(hJ.below.cell (p:=⟨b2,o2+j,none⟩) hb2).trans h5)
     rw[<-hft] at hJ3;have HJ3:Hid (Jn kx w (W3.setCell ⟨w.heap.size+1,2,none⟩ (.slice ev' en' ec')) (m+1) lo (jK kx (ts.take (i+1))) ev' en' ec'):=hJ3;have HQ:Hid ((fun w' => w'.cell? ⟨b,o+i * 3,none⟩=some (.int .i64 kx)/\w'.cell? ⟨b,o+i * 3+1,none⟩=some (.string nx)/\w'.cell? ⟨b,o+i * 3+2,none⟩=some (.slice (some ⟨b2,o2,none⟩) lx cx)) wr.drew):=⟨d0,d1,d2⟩;have hcw:=hc w (zzd _ _);have hS3:(fun w' => w'.cell? ⟨b,o+i * 3,none⟩=some (.int .i64 kx)/\w'.cell? ⟨b,o+i * 3+1,none⟩=some (.string nx)/\w'.cell? ⟨b,o+i * 3+2,none⟩=some (.slice (some ⟨b2,o2,none⟩) lx cx)) W3:=⟨(lG (hb3 b hb) _).trans hcw.1,(lG (hb3 b hb) _).trans hcw.2.1,(lG (hb3 b hb) _).trans hcw.2.2⟩
     have hS4:(fun w' => w'.cell? ⟨b,o+i * 3,none⟩=some (.int .i64 kx)/\w'.cell? ⟨b,o+i * 3+1,none⟩=some (.string nx)/\w'.cell? ⟨b,o+i * 3+2,none⟩=some (.slice (some ⟨b2,o2,none⟩) lx cx)) (W3.setCell ⟨w.heap.size+1,2,none⟩ (.slice ev' en' ec')):=by
      exact k98
     have c3:W3.cell? ⟨w.heap.size+1,2,none⟩=some (.slice ev en ec):=cell_of_row W3 _ 2 _ _ _ hv3;(have f3:W3.frozen? ⟨w.heap.size+1,2,none⟩=false:=by simp[World.frozen?,hv3]);have c2d:wr.drew.cell? ⟨w.heap.size+1,2,none⟩=some (.slice ev en ec):=c2;clear hcw hc2 hr2 hX hJ3 hv3 hb3 hJ;(go_wp2_with fail);refine wp_region_held_drew (S:=(fun w' => w'.cell? ⟨b,o+i * 3,none⟩=some (.int .i64 kx)/\w'.cell? ⟨b,o+i * 3+1,none⟩=some (.string nx)/\w'.cell? ⟨b,o+i * 3+2,none⟩=some (.slice (some ⟨b2,o2,none⟩) lx cx))) hmx HQ.out (fun hS=>?_);refine gA 0 (some 28) hS ?_ (hy:=by intro w hSw;obtain⟨s1,s2,s3⟩:=hSw;go_simp;with_reducible rfl);refine gA 2 (some 30) hS ?_ (hy:=by intro w hSw;obtain⟨s1,s2,s3⟩:=hSw;go_simp;with_reducible rfl);refine gA 3 (some 31) hS ?_ (hy:=by intro w hSw;obtain⟨s1,s2,s3⟩:=hSw;go_simp;with_reducible rfl);refine gA 4 (some 32) hS ?_ (hy:=by intro w hSw;obtain⟨s1,s2,s3⟩:=hSw;go_simp;with_reducible rfl);refine gA 5 (some 33) hS ?_ (hy:=by intro w hSw;obtain⟨s1,s2,s3⟩:=hSw;go_simp;with_reducible rfl);refine gA 6 (some 34) hS ?_ (hy:=by intro w hSw;obtain⟨s1,s2,s3⟩:=hSw;go_simp;with_reducible rfl);refine gT 1 kr rfl (fun K hK=>?_);go_simp;refine hK.out _ _ hS (fun _=>?_);clear hK K
     try simp only[gQ]
     refine gT 7 kr rfl (fun K hK=>?_);rw[if_pos (by rfl)];refine sM _ _ 67 rfl _ _ (.slice ev' en' ec') W3 rfl rfl hrun ?_;refine hK.out _ _ hS3 (fun _=>?_);clear hK K
     try simp only[Act.put,List.setIfInBounds_toArray]
     refine jQ 8 (some 36) (v:=?_) hS3 ?_ ?_
     rotate_left
     ·intro w hSw
      obtain⟨s1,s2,s3⟩:=hSw;go_simp
      with_reducible rfl
     try simp only[Act.put]
     refine gT 9 kr rfl (fun K hK=>?_);rw[if_pos (by rfl)];go_simp;refine hK.out _ _ hS4 (fun _=>?_);clear hK K
     try simp only[gQ]
     refine wpAnyH_done kr ?_ _;go_wp2
     go_roundw
     case rel=>exact⟨i+1,oo,rfl,ev', en', ec', HJ3.out⟩
     case measure=>simp[intOf];omega
    ·have hkb:(kx==k)=false:=by rw[beq_eq_false_iff_ne];exact hkk
     rw[if_neg (fun e=>hkk (hkx.symm.trans e))] at hft;rw[hft,List.length_append,hJl,List.length_cons,List.length_nil] at hfb;obtain⟨Y,hY⟩:∃Y:Obj,Y=.cells #[.int .i64 kx,.string nx,.slice ax lx cx] 69:=⟨_,rfl⟩;have hws:w.heap.size+1<wr.heap.size:=(zza.1 hvar).1;have hnew:(wr.drew.alloc Y).heap[wr.heap.size]? = some Y:=heap_alloc_new wr.drew Y
     obtain⟨ev', en', ec', W3,hrun,hv3,hb3,hJ3⟩:=hJ.append (us:=[x]) (qs:=[((kx,nx,ax,lx,cx):Raw)]) (len:=1) hlo (W:=wr.drew.alloc Y) ((zzd _ wr).drew.alloc (zzb _) Y) (lH.one hX) rfl oo wr.heap.size 0 1 (fun j u hj=>by
      rw[rD];refine vE [((kx,nx,ax,lx,cx):Raw)] 0 (fun i x hx=>?_) j u hj
      have hcell:∀j,(wr.drew.alloc Y).cell? ⟨wr.heap.size,j,none⟩=(#[.int .i64 kx,.string nx,.slice ax lx cx]:Array Value)[j]? := fun j=>by
       rw[hY] at hnew ⊢;exact cell_of_row _ _ j _ _ _ hnew
      cases i with
      | zero=>
       have hx2:((kx,nx,ax,lx,cx):Raw)=x:=zzo hx;subst hx2;exact⟨hcell 0,hcell 1,hcell 2⟩
      | succ i=>cases hx)
     rw[<-hft] at hJ3;have HJ3:Hid (Jn k w (W3.setCell ⟨w.heap.size+1,2,none⟩ (.slice ev' en' ec')) m lo (jK k (ts.take (i+1))) ev' en' ec'):=hJ3;have HQ:Hid ((fun w' => w'.cell? ⟨b,o+i * 3,none⟩=some (.int .i64 kx)/\w'.cell? ⟨b,o+i * 3+1,none⟩=some (.string nx)/\w'.cell? ⟨b,o+i * 3+2,none⟩=some (.slice ax lx cx)) wr.drew):=⟨d0,d1,d2⟩;have hcw:=hc w (zzd _ _);have hwb:b<wr.heap.size:=by have:=hJ.below.size;omega
     have hSa:(fun w' => w'.cell? ⟨b,o+i * 3,none⟩=some (.int .i64 kx)/\w'.cell? ⟨b,o+i * 3+1,none⟩=some (.string nx)/\w'.cell? ⟨b,o+i * 3+2,none⟩=some (.slice ax lx cx)) (wr.drew.alloc (.cells #[.int .i64 kx,.string nx,.slice ax lx cx] 69)):=by
      have hb4:(wr.drew.alloc (.cells #[.int .i64 kx,.string nx,.slice ax lx cx] 69)).heap[b]? = wr.heap[b]? := zzf wr.drew _ b hwb;exact⟨(lG hb4 _).trans d0,(lG hb4 _).trans d1,(lG hb4 _).trans d2⟩
     have hS3:(fun w' => w'.cell? ⟨b,o+i * 3,none⟩=some (.int .i64 kx)/\w'.cell? ⟨b,o+i * 3+1,none⟩=some (.string nx)/\w'.cell? ⟨b,o+i * 3+2,none⟩=some (.slice ax lx cx)) W3:=⟨(lG (hb3 b hb) _).trans hcw.1,(lG (hb3 b hb) _).trans hcw.2.1,(lG (hb3 b hb) _).trans hcw.2.2⟩
     have hS4:(fun w' => w'.cell? ⟨b,o+i * 3,none⟩=some (.int .i64 kx)/\w'.cell? ⟨b,o+i * 3+1,none⟩=some (.string nx)/\w'.cell? ⟨b,o+i * 3+2,none⟩=some (.slice ax lx cx)) (W3.setCell ⟨w.heap.size+1,2,none⟩ (.slice ev' en' ec')):=by
      exact k98
     have c3:W3.cell? ⟨w.heap.size+1,2,none⟩=some (.slice ev en ec):=cell_of_row W3 _ 2 _ _ _ hv3;(have f3:W3.frozen? ⟨w.heap.size+1,2,none⟩=false:=by simp[World.frozen?,hv3]);have c2d:wr.drew.cell? ⟨w.heap.size+1,2,none⟩=some (.slice ev en ec):=c2;have c2e:(wr.drew.alloc (.cells #[.int .i64 kx,.string nx,.slice ax lx cx] 69)).cell? ⟨w.heap.size+1,2,none⟩=some (.slice ev en ec):=(lG (zzf wr.drew _ _ hws) _).trans c2;have c2g:(wr.alloc (.cells #[.int .i64 kx,.string nx,.slice ax lx cx] 69)).cell? ⟨w.heap.size+1,2,none⟩=some (.slice ev en ec):=(lG (zzf wr _ _ hws) _).trans c2;rw[hY] at hrun;clear hcw hX hJ3 hv3 hb3 hJ hnew hY hwb hws;(go_wp2_with fail);refine wp_region_held_drew (S:=(fun w' => w'.cell? ⟨b,o+i * 3,none⟩=some (.int .i64 kx)/\w'.cell? ⟨b,o+i * 3+1,none⟩=some (.string nx)/\w'.cell? ⟨b,o+i * 3+2,none⟩=some (.slice ax lx cx))) hmx HQ.out (fun hS=>?_);refine jQ 0 (some 37) (v:=?_) hS ?_ ?_
     rotate_left
     ·intro w hSw
      obtain⟨s1,s2,s3⟩:=hSw;go_simp
      with_reducible rfl
     try simp only[gQ]
     refine gA 2 (some 39) hS ?_ (hy:=by intro w hSw;obtain⟨s1,s2,s3⟩:=hSw;go_simp;with_reducible rfl);refine gA 3 (some 40) hS ?_ (hy:=by intro w hSw;obtain⟨s1,s2,s3⟩:=hSw;go_simp;with_reducible rfl);refine gA 4 (some 41) hS ?_ (hy:=by intro w hSw;obtain⟨s1,s2,s3⟩:=hSw;go_simp;with_reducible rfl);refine gA 5 (some 42) hS ?_ (hy:=by intro w hSw;obtain⟨s1,s2,s3⟩:=hSw;go_simp;with_reducible rfl);refine wpAnyH_ready (rs:=[1,6]) kr (by simp) (AllReadyH.cons rfl (fun K hK=>?_) (AllReadyH.cons rfl (fun K hK=>?_) AllReadyH.nil))
     ·go_simp
      refine hK.out _ _ hS (fun _=>?_);clear hK K
      try simp only[gQ]
      refine gT 6 kr rfl (fun K hK=>?_);exact k21
     ·go_simp
      refine hK.out _ _ hSa (fun _=>?_);clear hK K
      try simp only[gQ]
      refine gT 1 kr rfl (fun K hK=>?_);exact k21
   ·obtain rfl:i=len:=by omega
    rw[HT.out] at hJ;obtain⟨qs,hown,hrows⟩:=hJ.rows;have hJB:=hJ.below;have hs1:w.heap.size+1<wr.heap.size:=(zza.1 hvar).1;obtain⟨a2,cp2,hv2,_,hx2⟩:=ExA.of_owns (A:=fun b=>lo<=b/\b≠w.heap.size) hown (hrows.kept hJB.size fun b hb hA=>⟨⟨hA,oo⟩,hJB.block b hb⟩) (by have:=HGG.out.2.2.1;have:=hJ.len;omega) (fun g hg=>by have h1:=(kQ hown hg).1;have h2:=HGG.out.2.1;exact⟨oo,oo⟩) k ⟨#[]⟩;cases hv2;have c0:wr.cell? ⟨w.heap.size+1,0,none⟩=some (.int .i64 k):=cell_of_row wr _ 0 _ _ _ hvar;have c1:wr.cell? ⟨w.heap.size+1,1,none⟩=some (.string ⟨#[]⟩):=cell_of_row wr _ 1 _ _ _ hvar;have HZ:Hid (wr.heap[w.heap.size]? = some (.cells #[.int .i64 0,.string ⟨#[]⟩,.slice none 0 0] 69 (0,0))):=hJ.zero;(have HF:Hid (∀cs,Below w.heap.size w (wr.setRow w.heap.size cs)/\ExA (fun b=>lo<=b) (wr.setRow w.heap.size cs) (m+1) (node k ⟨#[]⟩ (jK k ts)) (.agg #[.int .i64 k,.string ⟨#[]⟩,.slice ev en ec])):=fun cs=>⟨below_setRow hJB (zzb _) cs,ExA.kept (by rw[size_setRow];exact zzb _) (fun b hb hA=>⟨hA.1,setRow_other _ _ _ _ hA.2⟩) _ _ _ hx2⟩);clear hJ hown hrows hJB hx2 hvar hs1;(go_wp2_with (refine wpList_store_row rfl 69 _ _ rfl w.heap.size #[.int .i64 k,.string ⟨#[]⟩,.slice ev en ec] rfl rfl 69 _ HZ.out gE rfl (jF _ _ _ _ _) ?_));refine bodyPost_ret (results_cell_row rfl _ _ w.heap.size 69 #[.int .i64 k,.string ⟨#[]⟩,.slice ev en ec] (0,0) _ rfl (setRow_heap _ _ _ _ _ _ HZ.out) Tryz.underlying69 rfl gE) rfl ?_;exact⟨(HF.out _).1,(k,⟨#[]⟩,ev,en,ec),m+1,rfl,(HF.out _).2⟩
def rO (g:Nat)(s:ByteArray)(lo i:Nat)(R:Option (DataW Unit)×List UInt8)(e:Ending)(w' : World):Prop :=
 ∃j t m r f,PAt w' g s j f/\Pl s j/\i<=j/\lC t/\iE t≠99/\ExA (fun b=>lo<=b) w' m t (jI r)/\e=.returned (jI r)/\((f=false/\R=(some t,left s j)/\i<j/\(subs t).length+i<=j)\/(f=true/\R=(none,left s j)/\(subs t).length+i<=j+1))
def RCH (g:Nat)(s:ByteArray)(n:Nat):Prop:=∀W i,PAt W g s i false->i<=s.size->s.size - i<n->Calls Tryz.prog 126 #[.pointer (some ⟨g,0,none⟩)] W fun e W' => gX g W W' /\ rO g s W.heap.size i (gZ n (left s i)) e W'
theorem tX {s:ByteArray}{i:Nat}(h:i<=s.size):(left s (skip s i)=[]/\jD s (skip s i) false=0)\/∃c q,left s (skip s i)=c::q/\jD s (skip s i) false=max (c.toNat:Int) 1/\left s (skip s i+1)=q/\skip s i<s.size:=by
 have hl:=gUd h
 rcases Nat.lt_or_ge (skip s i) s.size with h1 | h1
 ·exact .inr ⟨_,_,rA h1,gCj h1,rfl,h1⟩
 ·have he:skip s i=s.size:=by omega
  rw[he];exact .inl ⟨oI s,(wM (zzb _)).2 (oI s)⟩
structure tP (g:Nat) (s:ByteArray) (w wr:World) (Eb i j:Nat) (T:DataW Unit×List UInt8) (t:DataW Unit) (m:Nat) (k:Int) (nm:ByteArray) (a:Option Addr) (ln cp:Nat):Prop where
 pat:PAt wr g s j false
 le:j<=s.size
 signs:iY t (left s j)=T
 good:lC t
 kind:iE t≠99
 lt:i<j
 wid:(subs t).length+i<=j
 kept:gX g w wr
 zero:wr.heap[w.heap.size]? = some (.cells #[.int .i64 0,.string ⟨#[]⟩,.slice none 0 0] 69 (0,0))
 var:wr.heap[Eb]? = some (.cells #[.int .i64 k,.string nm,.slice a ln cp] 69 (0,0))
 eb:w.heap.size<Eb
 ex:ExA (fun b=>w.heap.size<b/\b≠Eb) wr m t (.agg #[.int .i64 k,.string nm,.slice a ln cp])
theorem gRe {s:ByteArray}{j:Nat}(hj:j<=s.size)(t:DataW Unit){c:UInt8}{q:List UInt8}(hl:left s (skip s j)=c::q)(hk:jL c≠0):iY t (left s j)=iY (node (jL c) ⟨#[]⟩ [t]) q:=by
 obtain⟨P2,q2,q3⟩:=Pl.skip hj
 rw[<-sT,<-q3,hl]
 have h32:c≠32:=by
  have hsk:=P2.2;rw[hl] at hsk;exact uZ _ c q hsk
 rw[iY,if_neg h32,if_neg hk]
theorem gFk {s:ByteArray}{j:Nat}(hj:j<=s.size)(t:DataW Unit)(h:left s (skip s j)=[]\/∃c q,left s (skip s j)=c::q/\jL c=0):iY t (left s j)=(t,left s (skip s j)):=by
 obtain⟨P2,q2,q3⟩:=Pl.skip hj
 rw[<-sT,<-q3]
 rcases h with h | ⟨c,q,h,h0⟩
 ·rw[h];rfl
 ·have h32:c≠32:=by
   have hsk:=P2.2;rw[h] at hsk;exact uZ _ c q hsk
  rw[h,iY,if_neg h32,if_pos h0]
theorem tP.step {g:Nat}{s:ByteArray}{w wr:World}{Eb i j:Nat}{T:DataW Unit×List UInt8}{t:DataW Unit}{m:Nat}{k:Int}{nm:ByteArray}{a:Option Addr}{ln cp:Nat}(h:tP g s w wr Eb i j T t m k nm a ln cp)(hgw:g<w.heap.size){c:UInt8}{q:List UInt8}(hl:left s (skip s j)=c::q)(hq:left s (skip s j+1)=q)(hlt:skip s j<s.size)(hk:jL c≠0)(K:Int)(hK:jL c=K)(hK2:K=4\/K=5\/K=6){W1:World}(hO1:jW g wr W1)(hP1:PAt W1 g s (skip s j) false) :
  tP g s w (((W1.setCell ⟨g,1,none⟩ (.int .i64 ((skip s j:Nat)+1))).alloc (.cells #[.int .i64 k,.string nm,.slice a ln cp] 69)).setRow Eb #[.int .i64 K,.string ⟨#[]⟩,.slice (some ⟨W1.heap.size,0,none⟩) 1 1]) Eb i (skip s j+1) T (node K ⟨#[]⟩ [t]) (m+1) K ⟨#[]⟩ (some ⟨W1.heap.size,0,none⟩) 1 1:=by
 obtain⟨P2,q2,q3⟩:=Pl.skip h.le
 have hst:=gRe h.le t hl hk
 have hll:=h.lt
 have heb:=h.eb
 have hbe:Eb<wr.heap.size:=(zza.1 h.var).1
 have hs1:=hO1.size
 obtain⟨W2,hW2⟩:∃W2,W2=W1.setCell ⟨g,1,none⟩ (.int .i64 ((skip s j:Nat)+1)):=⟨_,rfl⟩
 have hP2:PAt W2 g s (skip s j+1) false:=by rw[hW2];exact hP1.next (skip s j+1)
 have hs2:W2.heap.size=W1.heap.size:=by rw[hW2];simp
 rw[<-hW2]
 have hblk:∀b,b<wr.heap.size->b≠g->b≠Eb->((W2.alloc (.cells #[.int .i64 k,.string nm,.slice a ln cp] 69)).setRow Eb #[.int .i64 K,.string ⟨#[]⟩,.slice (some ⟨W1.heap.size,0,none⟩) 1 1]).heap[b]? = wr.heap[b]? := fun b h1 h2 h3=>by
  rw[setRow_other _ _ _ _ h3,zzf W2 _ b oo,hW2,zzh _ _ _ _ h2,hO1.block b h2]
 have hvar2:(W2.alloc (.cells #[.int .i64 k,.string nm,.slice a ln cp] 69)).heap[Eb]? = some (.cells #[.int .i64 k,.string nm,.slice a ln cp] 69 (0,0)):=by
  rw[zzf W2 _ Eb oo,hW2,zzh _ _ _ _ (by show Eb≠g;omega),hO1.block Eb oo];exact h.var
 have hnew:((W2.alloc (.cells #[.int .i64 k,.string nm,.slice a ln cp] 69)).setRow Eb #[.int .i64 K,.string ⟨#[]⟩,.slice (some ⟨W1.heap.size,0,none⟩) 1 1]).heap[W1.heap.size]? = some (.cells #[.int .i64 k,.string nm,.slice a ln cp] 69 (0,0)):=by
  rw[setRow_other _ _ _ _ oo,<-hs2];exact heap_alloc_new W2 _
 have hks:=h.kept.size
 refine⟨(hP2.alloc _).setRow _ _ oo,oo,?_,lC.of (by intro h;omega),by rw[iN];omega,oo,by rw[iC,List.length_cons,List.length_nil];omega,?_,?_,?_,heb,?_⟩
 ·rw[hq,<-hK,<-hst]
  exact h.signs
 ·refine⟨?_,?_,?_,by simp;omega,fun b hb hg=>(hblk b oo hg oo).trans (h.kept.block b hb hg)⟩
  ·rw[hW2];exact hO1.os.trans h.kept.os
  ·rw[hW2];exact hO1.tape.trans h.kept.tape
  ·rw[hW2];exact hO1.output.trans h.kept.output
 ·exact(hblk _ oo oo oo).trans h.zero
 ·exact setRow_heap _ _ _ _ _ _ hvar2
 ·refine⟨_,_,_,1,1,[t],rfl,rfl,rfl,oo,.inr ⟨W1.heap.size,0,rfl,by simp;omega,⟨oo,oo⟩,fun i x hx=>?_⟩⟩
  cases i with
  | zero=>
   (obtain rfl:t=x:=by simpa using hx);exact⟨k,nm,a,ln,cp,cell_of_row _ _ 0 _ _ _ hnew,cell_of_row _ _ 1 _ _ _ hnew,cell_of_row _ _ 2 _ _ _ hnew,ExA.kept (by simp;omega) (fun b hb hA=>⟨hA,hblk b hb oo hA.2⟩) _ _ _ h.ex⟩
  | succ i=>simp at hx
theorem Pl.stay {s:ByteArray}{j:Nat}(h:Pl s j):Go.Proofs.YtjkebndkeamijaaGreatDoor.skip s j=j:=by
 obtain⟨p1,p2,p3⟩:=Pl.skip h.1
 rw[h.2] at p3
 have h1:=iL s (Go.Proofs.YtjkebndkeamijaaGreatDoor.skip s j)
 have h2:=iL s j
 rw[p3,h2] at h1
 have:=p1.1
 have:=h.1
 omega
theorem gRk {s:ByteArray}{i:Nat}(h:i<=s.size)(alt:List UInt8->Option (DataW Unit)×List UInt8){c:UInt8}{q:List UInt8}(hl:left s (skip s i)=c::q)(hc:gH c=true){e:Nat}(he:e=skip s i+((left s (skip s i)).takeWhile gH).length) :
  iB alt (left s i)=(some (iY (node 1 (s.extract (skip s i) e) []) (left s e)).1,(iY (node 1 (s.extract (skip s i) e) []) (left s e)).2):=by
 obtain⟨P2,q2,q3⟩:=Pl.skip h
 have h1:s.extract (skip s i) e=⟨((left s (skip s i)).takeWhile gH).toArray⟩:=by
  have:=gDx s (skip s i) ((left s (skip s i)).takeWhile gH).length
  rw[(pH (p:=gH) (left s (skip s i))).1] at this;rw[he];have h3:=congrArg (fun l:List UInt8=>(⟨l.toArray⟩:ByteArray)) this;simpa only[hAx] using h3
 have h2:left s e=(left s (skip s i)).dropWhile gH:=by
  rw[he,gJa,(pH (p:=gH) (left s (skip s i))).2]
 rw[h1,h2,<-yM,<-q3]
 unfold iB
 rw[P2.2,hl]
 simp only[hc,if_true]
theorem gFw {s:ByteArray}{i n:Nat}(h:i<=s.size){q:List UInt8}(hl:left s (skip s i)=40::q) :
  iB (gZ n) (left s i)=match gZ n q with
   | (none,q')=>(none,q')
   | (some _,[])=>(none,[])
   | (some t,d::q')=>if d=41 then (some (iY t q').1,(iY t q').2) else (none,d::q'):=by
 obtain⟨P2,q2,q3⟩:=Pl.skip h
 rw[<-yM,<-q3]
 unfold iB
 rw[P2.2,hl]
 simp only[show gH 40=false from by decide,Bool.false_eq_true,if_false,if_true]
 rfl
theorem gRl {s:ByteArray}{i n:Nat}(h:i<=s.size)(hl:left s (skip s i)=[]\/∃c q,left s (skip s i)=c::q/\gH c=false/\c≠40):iB (gZ n) (left s i)=(none,left s (skip s i)):=by
 obtain⟨P2,q2,q3⟩:=Pl.skip h
 rw[<-yM,<-q3]
 unfold iB
 rw[P2.2]
 rcases hl with hl | ⟨c,q,hl,h1,h2⟩
 ·rw[hl]
 ·rw[hl]
  simp only[h1,Bool.false_eq_true,if_false,if_neg h2]
theorem gRi {s:ByteArray}{i n j:Nat}(h:i<=s.size){q:List UInt8}(hl:left s (skip s i)=40::q){t:DataW Unit}(ha:gZ n q=(some t,left s j)){q' : List UInt8}(hj:left s j=41::q'):iB (gZ n) (left s i)=(some (iY t q').1,(iY t q').2):=by
 rw[gFw h hl,ha,hj]
 simp only[if_true]
theorem gRj {s:ByteArray}{i n j:Nat}(h:i<=s.size){q:List UInt8}(hl:left s (skip s i)=40::q)(ha:gZ n q=(none,left s j)\/∃t,gZ n q=(some t,left s j)/\∀q', left s j≠41::q'):iB (gZ n) (left s i)=(none,left s j):=by
 rw[gFw h hl]
 rcases ha with ha | ⟨t,ha,hn⟩
 ·rw[ha]
 ·rw[ha]
  cases hj:left s j with
  | nil=>rfl
  | cons d q' =>
   simp only;rw[if_neg (by rintro rfl;exact hn q' hj)]
theorem qJ {c:UInt8}{n:Nat}(hn:1<n)(hn2:n<256):(max (c.toNat:Int) 1=n)↔c=UInt8.ofNat n:=by
 constructor
 ·intro h
  exact qF hn2 oo
 ·rintro rfl
  rw[UInt8.toNat_ofNat_of_lt' hn2];omega
end Go.Proofs.YtjkebndkeamijaaGreatDoor
