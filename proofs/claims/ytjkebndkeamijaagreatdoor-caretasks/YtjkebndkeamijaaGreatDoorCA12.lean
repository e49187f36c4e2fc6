/-
  PROVED HERE: what the texts DALaySeq, DALayAlt say.
-/
import Derived.Test.YtjkebndkeamijaaGreatDoorCA11
set_option maxRecDepth 100000
set_option maxHeartbeats 2000000
namespace Go.Proofs.YtjkebndkeamijaaGreatDoor
open Go.RowKit Go.Shelf
attribute [local go_sem] Oper.semAt_some
theorem iA.others {A:Nat->Prop}{w w' : World}{B:Nat}{gv:Value}{L:List gD}(h:iA A w B gv L)(hs:∀(b:Nat) (c:Array Value) (t:TypeId),w.heap[b]? = some (.cells c t (0,0))->w'.heap[b]? = w.heap[b]?):iA A w' B gv L:=by
 obtain⟨v,rs,h⟩:=h
 refine⟨v,rs,(hs B _ _ h.plan).trans h.plan,h.own,gF h.row fun g hg=>?_,h.rowA,h.len,fun i x hx=>?_,h.apart⟩
 ·obtain⟨_,c,hc⟩:=gC h.row hg
  exact hs g _ _ hc
 ·obtain⟨r,h1,h2,h3,h4,h5⟩:=h.each i x hx
  exact⟨r,h1,h2,h3,gF h4 fun g hg=>by
   obtain⟨_,c,hc⟩:=gC h4 hg
   exact hs g _ _ hc,h5⟩
def gVc (w:World)(b:Nat):Prop:=∃c t,w.heap[b]? = some (.cells c t (0,0))/\(t=169\/t=167\/t=3)
theorem iA.kinds {A:Nat->Prop}{w:World}{B:Nat}{gv:Value}{L:List gD}(h:iA A w B gv L):iA (fun b=>A b/\gVc w b) w B gv L:=by
 obtain⟨v,rs,h⟩:=h
 refine⟨v,rs,h.plan,⟨h.own,_,_,h.plan,.inl rfl⟩,h.row,fun g hg=>?_,h.len,fun i x hx=>?_,h.apart⟩
 ·obtain⟨_,c,hc⟩:=gC h.row hg
  exact⟨h.rowA g hg,c,_,hc,.inr (.inl rfl)⟩
 ·obtain⟨r,h1,h2,h3,h4,h5⟩:=h.each i x hx
  exact⟨r,h1,h2,h3,h4,fun g hg=>by
   obtain⟨_,c,hc⟩:=gC h4 hg
   exact⟨h5 g hg,c,_,hc,.inr (.inr rfl)⟩⟩
def chE (ts:List (DataW Unit)){len:Nat}(i:Fin len):DataW Unit:=ts.getD i.val .nil
theorem hCv {ts:List (DataW Unit)}{len:Nat}(h:ts.length=len):(oM len).map (chE ts)=ts.reverse:=by
 unfold oM
 rw[List.map_reverse]
 congr 1
 apply List.ext_getElem
 ·simp[h]
 ·intro i h1 h2
  simp[chE,List.getD_eq_getElem?_getD,zze h2]
theorem gZq (f:DataW Unit->Nat->List gD->List gD×Nat)(x:DataW Unit):∀(l:List (DataW Unit)) (next:Nat) (L:List gD),iJ f (l++[x]) next L=f x (iJ f l next L).2 (iJ f l next L).1:=by
 intro l
 induction l with
 | nil=>intro next L;rfl
 | cons y r ih=>intro next L;rw[List.cons_append,iJ,ih,iJ]
theorem gVq {α:Type}(f:α->Nat)(m:Nat):∀l:List α,(∀x∈l,f x<=m)->(l.map f).sum<=l.length * m:=by
 intro l
 induction l with
 | nil=>intro _;simp
 | cons x r ih=>
  intro h;have h1:=h x (zzg ..);have h2:=ih (fun y hy=>h y (zzk _ hy));simp only[List.map_cons,List.sum_cons,List.length_cons,Nat.add_mul];omega
def hFm (f:DataW Unit->Nat->List gD->List gD×Nat)(ts:List (DataW Unit))(len cap b o:Nat)(w:World)(B:Nat)(gv:Value)(A:Nat->Prop)(L:List gD)(next:Nat)(pre:List (Fin len))(W:World):Prop :=
 ∃A', iA A' W B gv (iJ f (pre.map (chE ts)) next L).1/\W.heap[w.heap.size]? = some (.cells #[.pointer (some ⟨B,0,none⟩)] 164 (0,0))/\W.heap[w.heap.size+1+1]? = some (.cells #[.int .i64 ((iJ f (pre.map (chE ts)) next L).2:Int)] 3 (0,0)) ∧
  W.heap[w.heap.size+1+1+1]? = some (.cells #[.slice (some ⟨b,o,none⟩) len cap] 67 (0,0))/\¬A' (w.heap.size+1+1)/\Fr A w A' W/\pre.length<=len
theorem gLg (W0:World)(gs:List Grp)(ga:Option Addr)(gl gc n:Nat)(hlay:gTz W0 gs ga gl gc n)(s:ByteArray)(a:Option Addr)(len cap:Nat)(ts:List (DataW Unit))(w:World)(next:Nat)(A:Nat->Prop)(B:Nat)(L:List gD)
  (hE:Ex W0 (n+1) (node 2 s ts) (.agg #[.int .i64 2,.string s,.slice a len cap])) (hne:ts≠[]) (hS:∀x∈ts,qS gs n x) (hB:Below W0.heap.size W0 w) (hA:∀b,A b->W0.heap.size<=b)
  (hP:iA A w B (.slice ga gl gc) L)(hwf:wf L)(hn:next<L.length)(hlen:L.length+qQ subs (n+1) (node 2 s ts)<=1000000000) :
  Calls Tryz.prog 118 #[.pointer (some ⟨B,0,none⟩),.agg #[.int .i64 2,.string s,.slice a len cap],.int .i64 (next:Int)] w fun e w' => e=.returned (.int .i64 ((iJ (iM gs n) ts.reverse next L).2:Int))/\∃A', iA A' w' B (.slice ga gl gc) (iJ (iM gs n) ts.reverse next L).1/\Fr A w A' w' := by
 have hbase:=hB.size
 obtain⟨k', s', a', len', cap', ts', hnode,hv,hl,hz,hk⟩:=hE
 obtain⟨rfl,rfl,rfl⟩:=gAy.1 hnode
 obtain⟨rfl,rfl,rfl⟩:a=a' /\ len=len' /\ cap=cap' := by
  have:=Array.toList_inj.2 (Value.agg.inj hv)
  simp only[List.cons.injEq,Value.slice.injEq,and_true,true_and] at this;exact this
 clear hv hnode
 have hlen0:0<len:=by have:=List.length_pos_iff.2 hne;omega
 obtain⟨b,o,rfl,hbl,hkid⟩:∃b o,a=some ⟨b,o,none⟩/\b<W0.heap.size/\∀i x,ts[i]? = some x->∃(k' : Int) (s' : ByteArray) (a' : Option Addr) (len' cap' : Nat),
    W0.cell? ⟨b,o+i * 3,none⟩=some (.int .i64 k')/\W0.cell? ⟨b,o+i * 3+1,none⟩=some (.string s')/\W0.cell? ⟨b,o+i * 3+2,none⟩=some (.slice a' len' cap')/\Ex W0 n x (.agg #[.int .i64 k', .string s', .slice a' len' cap']):=by
  rcases hk with h | h
  ·omega
  ·exact h
 clear hk
 have hch:∀i:Fin len,chE ts i∈ts/\∃(k' : Int) (s' : ByteArray) (a' : Option Addr) (len' cap' : Nat),
    W0.cell? ⟨b,o+i.val * 3,none⟩=some (.int .i64 k')/\W0.cell? ⟨b,o+i.val * 3+1,none⟩=some (.string s')/\W0.cell? ⟨b,o+i.val * 3+2,none⟩=some (.slice a' len' cap')/\Ex W0 n (chE ts i) (.agg #[.int .i64 k', .string s', .slice a' len' cap']):=fun i=>by
  have hx:ts[i.val]? = some (chE ts i):=by
   unfold chE;rw[List.getD_eq_getElem?_getD,zze (by rw[hl];exact i.2)]
   rfl
  exact⟨zzj hx,hkid _ _ hx⟩
 have hneed:(subs (node 2 s ts)).length * ((subs (node 2 s ts)).map (size subs n)).sum+((subs (node 2 s ts)).map (qQ subs n)).sum+3+L.length<=1000000000:=by
  rw[qQ] at hlen;omega
 rw[iC] at hneed
 have hgood:∀x∈ts,vY (iM gs n) (size subs n) x:=fun x hx=>uQ gs n x (hS x hx)
 have hpre:∀pre:List (Fin len),pre.length<=len->wf (iJ (iM gs n) (pre.map (chE ts)) next L).1/\(iJ (iM gs n) (pre.map (chE ts)) next L).2<(iJ (iM gs n) (pre.map (chE ts)) next L).1.length/\(iJ (iM gs n) (pre.map (chE ts)) next L).1.length<=L.length+len * (ts.map (size subs n)).sum:=fun pre hpl=>by
  obtain⟨g1,g2,g3,g4,g5,g6⟩:=tZ (pre.map (chE ts)) (fun x hx=>by
   obtain⟨i,_,rfl⟩:=List.mem_map.1 hx
   exact hgood _ (hch i).1) next L hwf hn
  refine⟨g1,g2,Nat.le_trans g6 ?_⟩
  have hb:=gVq (size subs n) (ts.map (size subs n)).sum (pre.map (chE ts)) (fun x hx=>by
   obtain⟨i,_,rfl⟩:=List.mem_map.1 hx
   exact sR ts (hch i).1)
  rw[List.length_map] at hb
  have:=Nat.mul_le_mul_right (ts.map (size subs n)).sum hpl
  omega
 have hcall:∀(i:Fin len) (pre:List (Fin len)) (W:World) (A1:Nat->Prop) (kx:Int) (sx:ByteArray) (ax:Option Addr) (lx cx:Nat),pre.length<len->iA A1 W B (.slice ga gl gc) (iJ (iM gs n) (pre.map (chE ts)) next L).1->Below W0.heap.size W0 W->(∀b,A1 b->W0.heap.size<=b)->Ex W0 n (chE ts i) (.agg #[.int .i64 kx,.string sx,.slice ax lx cx]) →
   Calls Tryz.prog 118 #[.pointer (some ⟨B,0,none⟩),.agg #[.int .i64 kx,.string sx,.slice ax lx cx],.int .i64 ((iJ (iM gs n) (pre.map (chE ts)) next L).2:Int)] W fun e w' => e=.returned (.int .i64 ((iJ (iM gs n) ((pre++[i]).map (chE ts)) next L).2:Int))/\∃A', iA A' w' B (.slice ga gl gc) (iJ (iM gs n) ((pre++[i]).map (chE ts)) next L).1/\Fr A1 W A' w' := by
  intro i pre W A1 kx sx ax lx cx hpl h1 h2 h3 h4;obtain⟨g1,g2,g3⟩:=hpre pre oo;rw[List.map_append,List.map_cons,List.map_nil,gZq];refine hlay (chE ts i) _ W _ A1 B _ h4 (hS _ (hch i).1) h2 h3 h1 g1 g2 ?_
  have:=sR (f:=qQ subs n) ts (hch i).1
  have hlS:ts.length * (ts.map (size subs n)).sum=len * (ts.map (size subs n)).sum:=by rw[hl]
  omega
 have hall:Hid (iJ (iM gs n) ((oM len).map (chE ts)) next L=iJ (iM gs n) ts.reverse next L):=by show _=_;rw[hCv hl]
 rw[<-hall.out]
 have HCALL:Hid (∀(i:Fin len) (pre:List (Fin len)) (W:World) (A1:Nat->Prop) (kx:Int) (sx:ByteArray) (ax:Option Addr) (lx cx:Nat),pre.length<len->iA A1 W B (.slice ga gl gc) (iJ (iM gs n) (pre.map (chE ts)) next L).1->Below W0.heap.size W0 W->(∀b,A1 b->W0.heap.size<=b)->Ex W0 n (chE ts i) (.agg #[.int .i64 kx,.string sx,.slice ax lx cx]) →
   Calls Tryz.prog 118 #[.pointer (some ⟨B,0,none⟩),.agg #[.int .i64 kx,.string sx,.slice ax lx cx],.int .i64 ((iJ (iM gs n) (pre.map (chE ts)) next L).2:Int)] W fun e w' => e=.returned (.int .i64 ((iJ (iM gs n) ((pre++[i]).map (chE ts)) next L).2:Int))/\∃A', iA A' w' B (.slice ga gl gc) (iJ (iM gs n) ((pre++[i]).map (chE ts)) next L).1/\Fr A1 W A' w'):=hcall
 clear hcall hpre hgood hneed hlen hS hlay hwf hkid
 generalize iM gs n=f at *
 have h23:Fence.wide.fn 148:=trivial
 have h17:Fence.wide.fn 118:=trivial
 -- the world where the loop begins
 obtain⟨w4,hw4⟩:∃w4,(qK w B 2 s (some ⟨b,o,none⟩) len cap next).alloc (.cells #[.slice (some ⟨b,o,none⟩) len cap] 67)=w4:=⟨_,rfl⟩
 have hs4:w4.heap.size=w.heap.size+4:=by rw[<-hw4];simp[mJ]
 have hb4:Below w.heap.size w w4:=by rw[<-hw4];exact(nK ..).alloc (by rw[mJ];omega) _
 obtain⟨l0,l1,l2⟩:=gBd w B 2 s (some ⟨b,o,none⟩) len cap next
 have m0:w4.heap[w.heap.size]? = some (.cells #[.pointer (some ⟨B,0,none⟩)] 164 (0,0)):=by rw[<-hw4,zzf _ _ _ (by rw[mJ];omega)];exact l0
 have m2:w4.heap[w.heap.size+1+1]? = some (.cells #[.int .i64 (next:Int)] 3 (0,0)):=by rw[<-hw4,zzf _ _ _ (by rw[mJ];omega)];exact l2
 have m3:w4.heap[w.heap.size+1+1+1]? = some (.cells #[.slice (some ⟨b,o,none⟩) len cap] 67 (0,0)):=by
  rw[<-hw4]
  have:=World.alloc_heap_new (qK w B 2 s (some ⟨b,o,none⟩) len cap next) (.cells #[.slice (some ⟨b,o,none⟩) len cap] 67)
  rwa [mJ] at this
 have hW0:∀(A' : Nat->Prop) (W:World),Fr A w A' W->Below W0.heap.size W0 W/\∀b,A' b->W0.heap.size<=b:=fun A' W hF=>⟨hB.trans (hF.toBelow hbase (fun k hk h=>by have:=hA k h;omega)),fun k hk=>by
  rcases hF.sub k hk with h | h
  ·exact hA k h
  ·omega⟩
 have hI0:hFm f ts len cap b o w B (.slice ga gl gc) A L next [] w4:=⟨fun k=>A k/\k<w.heap.size,hP.tight.kept (fun _ h=>h) fun k hk _=>hb4.block k hk,m0,m2,m3,fun h=>by have:=h.2;omega,(Fr.of_below hb4).wide (A1:=fun k=>A k/\k<w.heap.size) (fun _ h=>h.1),zzn _⟩
 have hown:OwnFrom w4.heap.size (hFm f ts len cap b o w B (.slice ga gl gc) A L next):=by
  rintro pre W W' row ⟨A', i1,i2,i3,i4,i5,i6,i7⟩ hg hr
  have hcells:∀(k:Nat) (c:Array Value) (t:TypeId),W.heap[k]? = some (.cells c t (0,0))->W'.heap[k]? = W.heap[k]? := fun k c t hk=>hg.block k (zza.1 hk).1 (fun e=>by
   obtain⟨_,ob,h1,h2⟩:=hr k e.symm;rw[hk] at h1;cases h1
   cases h2)
  refine⟨A', i1.others hcells,(hcells _ _ _ i2).trans i2,(hcells _ _ _ i3).trans i3,(hcells _ _ _ i4).trans i4,i5,?_,i7⟩;refine⟨⟨hg.os.trans i6.below.os,hg.tape.trans i6.below.tape,hg.output.trans i6.below.output,Nat.le_trans i6.below.size hg.size,fun k hk=>absurd hk oo⟩,fun k hk hn=>?_,i6.sub⟩
  rw[hg.block k (zzl hk i6.below.size) (fun e=>by
   have:=(hr k e.symm).1
   omega),i6.same k hk hn]
 have HW4:Hid ((((w.alloc (.cells #[.pointer (some ⟨B,0,none⟩)] 164)).alloc (.cells #[.int .i64 2,.string s,.slice (some ⟨b,o,none⟩) len cap] 69)).alloc (.cells #[.int .i64 (next:Int)] 3)).alloc (.cells #[.slice (some ⟨b,o,none⟩) len cap] 67)=w4):=hw4
 have hB4:Below W0.heap.size W0 w4:=hB.trans (hb4.mono hbase)
 refine(callsIn_wide (n:=6)).1 ?_
 refine callsIn_of_wp_marks Tryz.func118 rfl trivial ?_ rfl
 simp only[Tryz.ntmps118,List.size_toArray,List.length_cons,List.length_nil,Nat.reduceAdd,Nat.reduceSub,Array.replicate_succ,Array.replicate_zero,List.push_toArray,List.append_toArray,List.nil_append,List.cons_append]
 gi_wp2_with (gi_at_call 148;refine(hDf Fence.wide 5 trivial rfl _ _ _ _).mono ?_;rintro e w' ⟨rfl,rfl⟩)
 rw[HW4.out]
 refine wpIn_rangeFunc_ownH rfl oo (gf:=164) (lb:=#[.pointer (some ⟨w.heap.size+1+1+1,0,none⟩)]) rfl trivial (enters_of Tryz.func164 kr rfl)
  (encs:=gUc W0 b o (N:=len)) (Kp:=fun X Y=>Below W0.heap.size X Y/\Y.heap[w.heap.size+1+1+1]? = X.heap[w.heap.size+1+1+1]?) (S:=fun ys=>ys=oM len) (Sp:=fun pre=>pre <+: oM len) (N:=len) (w0:=w4)
  (fun l J Jx W hW _ _ hY h0=>gYv Fence.wide 5 trivial rfl oo W0 l (w.heap.size+1+1+1) b o len cap hz hbl (fun i hi=>by obtain⟨_,k1,s1,a1,l1,c1,e0,e1,e2,_⟩:=hch ⟨i,hi⟩;exact⟨k1,s1,a1,l1,c1,e0,e1,e2⟩) J Jx hY W (hB4.trans (hW.mono hB4.size)) ((hW.block _ oo).trans m3) h0)
  (fun h k=>⟨h.1.trans k.1,k.2.trans h.2⟩) (fun W l o o' hl h1 h2 h3=>⟨belowK_b (w:=w4) hB4.size W l o o' hl h1 h2 h3,World.putObj_heap_other oo⟩) (zzd _ _) (fun _=>rfl)
  (hFm f ts len cap b o w B (.slice ga gl gc) A L next) (fun _ _ _=>False) hown (fun _ _ _ _ _ hs _ _=>hs) hI0
  (fun i a' W=>∃Bx,a' = { tmps:=#[.pointer (some ⟨B,0,none⟩),.agg #[.int .i64 2,.string s,.slice (some ⟨b,o,none⟩) len cap],.int .i64 (next:Int),.pointer (some ⟨w.heap.size,0,none⟩),.pointer (some ⟨w.heap.size+1,0,none⟩),.pointer (some ⟨w.heap.size+1+1,0,none⟩),.int .i64 0,undef,.pointer (some ⟨Bx,0,none⟩),undef,undef,undef,undef,undef,undef,undef,.pointer (some ⟨w.heap.size+1,0,none⟩),.int .i64 2,.bool false,.bool false,undef,undef,undef,undef,undef,undef,undef,undef,undef,undef,undef,undef,undef,undef,undef,undef,undef,undef,undef,undef,undef,.bool true,.bool true,.pointer (some ⟨w.heap.size+1,2,none⟩),.slice (some ⟨b,o,none⟩) len cap,.func (.func 164) #[] #[.pointer (some ⟨w.heap.size+1+1+1,0,none⟩)],.int .i64 (i.val:Int),.agg #[(W0.cell? ⟨b,o+i.val * 3,none⟩).getD undef,(W0.cell? ⟨b,o+i.val * 3+1,none⟩).getD undef,(W0.cell? ⟨b,o+i.val * 3+2,none⟩).getD undef],undef,undef,undef,undef,undef,undef,undef,undef,undef,undef,undef,undef,undef,undef,undef,undef,undef,undef,undef,undef,undef,undef,undef,undef,undef,undef,undef,undef,undef,undef,undef,undef,undef,undef,undef,undef,undef,undef,undef,undef,undef,undef,undef,undef,undef,undef,undef,undef,undef,undef,undef,undef,undef,undef,undef,undef,undef,undef,undef,undef,undef,undef,undef,undef],defers:=[] }/\W.heap[Bx]? = some (.cells #[(W0.cell? ⟨b,o+i.val * 3,none⟩).getD undef,(W0.cell? ⟨b,o+i.val * 3+1,none⟩).getD undef,(W0.cell? ⟨b,o+i.val * 3+2,none⟩).getD undef] 69 (0,0))) ?hax ?assign ?body ?done ?stop
 case hax=>
  rintro i a' _ W W' row ⟨Bx,h1,h2⟩ hg hr
  exact⟨Bx,h1,(hg.block Bx (zza.1 h2).1 (fun e=>by
   obtain⟨_,ob,h3,h4⟩:=hr Bx e.symm;rw[h2] at h3;cases h3
   cases h4)).trans h2⟩
 case assign=>
  rintro l pre i W K hi hK;obtain⟨_,k1,s1,a1,l1,c1,e0,e1,e2,_⟩:=hch i;have hK' := hK;unfold gUc;simp only[e0,e1,e2,Option.getD_some] at hK ⊢
  gi_wp2
  refine hK _ _ ((KeepsOthers.alloc _ _).from _) ⟨(zzd _ W).alloc ?_ _,?_⟩ ?_ ⟨W.heap.size,rfl,World.alloc_heap_new W _⟩
  ·obtain⟨A', i1,i2,i3,i4,i5,i6,i7⟩:=id hi
   exact(hW0 A' W i6).1.size
  ·obtain⟨A', i1,i2,i3,i4,i5,i6,i7⟩:=id hi
   exact zzf W _ _ (zza.1 i4).1
  ·exact hown.alloc _ hi
 case body=>
  rintro l pre i a' W hl ⟨r,hr⟩ ⟨A', i1,i2,i3,i4,i5,i6,i7⟩ ⟨Bx,rfl,hbx⟩ hlt;obtain⟨hBW,hAW⟩:=hW0 A' W i6;obtain⟨_,kx,sx,ax,lx,cx,e0,e1,e2,hEx⟩:=hch i;simp only[e0,e1,e2,Option.getD_some] at hbx ⊢;have q0:W.cell? ⟨w.heap.size,0,none⟩=some (.pointer (some ⟨B,0,none⟩)):=cell_of_row W _ 0 _ _ _ i2;have q1:=cell_of_row W Bx 0 _ _ _ hbx;have q2:=cell_of_row W Bx 1 _ _ _ hbx;have q3:=cell_of_row W Bx 2 _ _ _ hbx;have q4:W.cell? ⟨w.heap.size+1+1,0,none⟩=some (.int .i64 ((iJ f (pre.map (chE ts)) next L).2:Int)):=cell_of_row W _ 0 _ _ _ i3;simp only[List.getElem?_toArray,List.getElem?_cons_zero,List.getElem?_cons_succ] at q1 q2 q3;have HC:=HCALL.out i pre W (fun k=>A' k/\gVc W k) kx sx ax lx cx hlt i1.kinds hBW (fun k hk=>hAW k hk.1) hEx;have hlt2:w.heap.size+1+1<W.heap.size:=(zza.1 i3).1;have hlt3:w.heap.size+1+1+1<W.heap.size:=(zza.1 i4).1
  have hkind:∀k c t,W.heap[k]? = some (.cells c t (0,0))->t≠169->t≠167->t≠3->¬(A' k/\gVc W k):=by
   rintro k c t hk h1 h2 h3 ⟨_,c', t', hk', ht⟩;rw[hk] at hk';cases hk';rcases ht with h | h | h
   ·exact h1 h
   ·exact h2 h
   ·exact h3 h
  have HEND:Hid (∀(W2:World) (A2:Nat->Prop),iA A2 W2 B (.slice ga gl gc) (iJ f ((pre++[i]).map (chE ts)) next L).1->Fr (fun k=>A' k/\gVc W k) W A2 W2 →
    W2.cell? ⟨w.heap.size+1+1,0,none⟩=some (.int .i64 ((iJ f (pre.map (chE ts)) next L).2:Int))/\W2.frozen? ⟨w.heap.size+1+1,0,none⟩=false ∧
    (∀u,u=.int .i64 ((iJ f ((pre++[i]).map (chE ts)) next L).2:Int)->KeepsFrom w4.heap.size W (W2.setCell ⟨w.heap.size+1+1,0,none⟩ u)/\(Below W0.heap.size W (W2.setCell ⟨w.heap.size+1+1,0,none⟩ u)/\(W2.setCell ⟨w.heap.size+1+1,0,none⟩ u).heap[w.heap.size+1+1+1]? = W.heap[w.heap.size+1+1+1]?)/\hFm f ts len cap b o w B (.slice ga gl gc) A L next (pre++[i]) (W2.setCell ⟨w.heap.size+1+1,0,none⟩ u))):=by
   intro W2 A2 hP2 hF2;have hb2:W2.heap[w.heap.size+1+1]? = some (.cells #[.int .i64 ((iJ f (pre.map (chE ts)) next L).2:Int)] 3 (0,0)):=(hF2.same _ hlt2 (fun h=>i5 h.1)).trans i3;refine⟨cell_of_row W2 _ 0 _ _ _ hb2,by simp[World.frozen?,hb2],fun u hu=>?_⟩;subst hu;(have hset:∀k,k≠w.heap.size+1+1->(W2.setCell ⟨w.heap.size+1+1,0,none⟩ (.int .i64 ((iJ f ((pre++[i]).map (chE ts)) next L).2:Int))).heap[k]? = W2.heap[k]? := fun k hk=>zzh W2 _ _ k hk);have hsz:=hF2.below.size;have hs0:W2.heap[w.heap.size]? = W.heap[w.heap.size]? := hF2.same _ oo (hkind _ _ _ i2 (by decide) (by decide) (by decide));have hs3:W2.heap[w.heap.size+1+1+1]? = W.heap[w.heap.size+1+1+1]? := hF2.same _ hlt3 (hkind _ _ _ i4 (by decide) (by decide) (by decide));have hbel:Below W0.heap.size W W2:=hF2.toBelow hBW.size (fun k hk h=>by have:=hAW k h.1;omega);refine⟨⟨by simpa using hsz,fun k ob hB hk ho=>?_⟩,⟨?_,?_⟩,A2,hP2.kept (fun _ h=>h) (fun k hk hA2=>hset k (fun e=>?_)),?_,?_,?_,fun h=>?_,?_,by simp;omega⟩
   ·rw[hset k (fun e=>by subst e;rw[i3] at hk;cases hk;cases ho),hF2.same k (zza.1 hk).1 (fun h=>by
     obtain⟨_,c', t', hk', _⟩:=h;rw[hk] at hk';cases hk'
     cases ho)]
    exact hk
   ·exact hbel.setCell (by show W0.heap.size<=w.heap.size+1+1;omega) _
   ·rw[hset _ oo]
    exact hs3
   ·subst e
    rcases hF2.sub _ hA2 with h | h
    ·exact i5 h.1
    ·omega
   ·rw[hset _ oo,hs0]
    exact i2
   ·rw[heap_setCell_same W2 _ 0 _ _ _ hb2]
    rfl
   ·rw[hset _ oo,hs3]
    exact i4
   ·rcases hF2.sub _ h with h | h
    ·exact i5 h.1
    ·omega
   ·have hF:=i6.trans (hF2.wide (A:=A') (fun _ h=>h.1))
    refine⟨hF.below.setCell (zzn _) _,fun k hk hn=>?_,hF.sub⟩;rw[hset k oo];exact hF.same k hk hn
  generalize hnx:((iJ f (pre.map (chE ts)) next L).2:Int)=nx at *;generalize hny:((iJ f ((pre++[i]).map (chE ts)) next L).2:Int)=ny at *;clear i1 i3 i4 i6 hkind hown hI0 HCALL hch
  gi_wp2_with (gi_at_call 118;refine(CallsIn.inRound l (callsIn_wide.2 HC)).mono ?_;clear HC;rintro e W2 ⟨rfl,A2,hP2,hF2⟩;obtain⟨f1,f2,HE⟩:=HEND.out W2 A2 hP2 hF2)
  exact HE _ rfl
 case done=>
  rintro D ys W hD rfl ⟨A', i1,i2,i3,i4,i5,i6,i7⟩ hK;have q4:W.cell? ⟨w.heap.size+1+1,0,none⟩=some (.int .i64 ((iJ f ((oM len).map (chE ts)) next L).2:Int)):=cell_of_row W _ 0 _ _ _ i3;have hcells:∀(k:Nat) (c:Array Value) (t:TypeId),W.heap[k]? = some (.cells c t (0,0))->(W.putObj D (.deferred none)).heap[k]? = W.heap[k]? := fun k c t hk=>World.putObj_heap_other (fun e=>by subst e;rw[hK] at hk;cases hk)
  have HE:Hid (∃A', iA A' (W.putObj D (.deferred none)) B (.slice ga gl gc) (iJ f ((oM len).map (chE ts)) next L).1/\Fr A w A' (W.putObj D (.deferred none))):=⟨A', i1.others hcells,⟨⟨i6.below.os,i6.below.tape,i6.below.output,by simpa using i6.below.size,fun k hk=>absurd hk oo⟩,fun k hk hn=>by
   rw[World.putObj_heap_other oo]
   exact i6.same k hk hn,i6.sub⟩⟩
  clear i1 i2 i3 i4 i5 i6 hcells hown hI0 HCALL hch
  gi_wp2
  refine⟨by simp,.inl ⟨_,_,rfl,run_takeDeferred hK,?_⟩⟩;exact⟨_,results_tmp rfl _ _ _,rfl,HE.out⟩
 case stop=>
  rintro D c pre W _ _ h _;exact h.elim
end Go.Proofs.YtjkebndkeamijaaGreatDoor
namespace Go.Proofs.YtjkebndkeamijaaGreatDoor
open Go.RowKit
theorem gQe (f:DataW Unit->Nat->List gD->List gD×Nat)(next:Nat)(x:DataW Unit):∀(l:List (DataW Unit)) (L:List gD) (ws:List Nat),gP f next (l++[x]) L ws=((f x next (gP f next l L ws).1).1,(gP f next l L ws).2++[(f x next (gP f next l L ws).1).2]):=by
 intro l
 induction l with
 | nil=>intro L ws;rfl
 | cons y r ih=>intro L ws;rw[List.cons_append,gP,ih,gP]
def gZg (f:DataW Unit->Nat->List gD->List gD×Nat)(ts:List (DataW Unit))(w w3:World)(B:Nat)(gv:Value)(A:Nat->Prop)(L:List gD)(next:Nat)(j:Nat)(u:Value)(W:World):Prop :=
 ∃A', iA A' W B gv (gP f next (ts.take j) L []).1/\W.ownsRow 0 3 1 u (gP f next (ts.take j) L []).2.length (lU (gP f next (ts.take j) L []).2)/\(∀g,u.ownBlock=some g->¬A' g/\w3.heap.size<=g) ∧
  (∀b,b<3->W.heap[w.heap.size+b]? = w3.heap[w.heap.size+b]?)/\(∀b,b<3->¬A' (w.heap.size+b))/\Fr A w A' W/\w3.heap.size<=W.heap.size
theorem gLi (W0:World)(gs:List Grp)(ga:Option Addr)(gl gc n:Nat)(hlay:gTz W0 gs ga gl gc n)(s:ByteArray)(a:Option Addr)(len cap:Nat)(ts:List (DataW Unit))(w:World)(next:Nat)(A:Nat->Prop)(B:Nat)(L:List gD)
  (hE:Ex W0 (n+1) (node 3 s ts) (.agg #[.int .i64 3,.string s,.slice a len cap])) (hne:ts≠[]) (hS:∀x∈ts,qS gs n x) (hB:Below W0.heap.size W0 w) (hA:∀b,A b->W0.heap.size<=b)
  (hP:iA A w B (.slice ga gl gc) L)(hwf:wf L)(hn:next<L.length)(hlen:L.length+qQ subs (n+1) (node 3 s ts)<=1000000000)(hlt0:len<=1000000000) :
  Calls Tryz.prog 118 #[.pointer (some ⟨B,0,none⟩),.agg #[.int .i64 3,.string s,.slice a len cap],.int .i64 (next:Int)] w fun e w' => e=.returned (.int .i64 ((jH (gP (iM gs n) next ts L []).1 (gP (iM gs n) next ts L []).2).2:Int))/\∃A', iA A' w' B (.slice ga gl gc) (jH (gP (iM gs n) next ts L []).1 (gP (iM gs n) next ts L []).2).1/\Fr A w A' w' := by
 have hbase:=hB.size
 obtain⟨k', s', a', len', cap', ts', hnode,hv,hl,hz,hk⟩:=hE
 obtain⟨rfl,rfl,rfl⟩:=gAy.1 hnode
 obtain⟨rfl,rfl,rfl⟩:a=a' /\ len=len' /\ cap=cap' := by
  have:=Array.toList_inj.2 (Value.agg.inj hv)
  simp only[List.cons.injEq,Value.slice.injEq,and_true,true_and] at this;exact this
 clear hv hnode
 have hlen0:0<len:=by have:=List.length_pos_iff.2 hne;omega
 have hneed:(subs (node 3 s ts)).length * ((subs (node 3 s ts)).map (size subs n)).sum+((subs (node 3 s ts)).map (qQ subs n)).sum+3+L.length<=1000000000:=by
  rw[qQ] at hlen;omega
 rw[iC] at hneed
 obtain⟨w3,hw3⟩:∃w3,w3=qK w B 3 s a len cap next:=⟨_,rfl⟩
 have hs3:w3.heap.size=w.heap.size+3:=by rw[hw3,mJ]
 have hb3:Below w.heap.size w w3:=by rw[hw3];exact nK ..
 have hgood:∀x∈ts,vY (iM gs n) (size subs n) x:=fun x hx=>uQ gs n x (hS x hx)
 have hpre:∀j,wf (gP (iM gs n) next (ts.take j) L []).1/\(∀q∈(gP (iM gs n) next (ts.take j) L []).2,q<(gP (iM gs n) next (ts.take j) L []).1.length)/\next<(gP (iM gs n) next (ts.take j) L []).1.length/\(gP (iM gs n) next (ts.take j) L []).1.length<=L.length+(ts.map (size subs n)).sum/\(gP (iM gs n) next (ts.take j) L []).2.length=min j len:=fun j=>by
  obtain⟨g1,g2,g3,g4,g5,g6⟩:=uA next (ts.take j) (fun x hx=>hgood x (List.mem_of_mem_take hx)) L [] hwf hn (fun q hq=>by cases hq);refine⟨g1,fun q hq=>(g2 q hq).1,oo,Nat.le_trans g5 ?_,by rw[g6,List.length_take,hl];simp⟩
  have:∀(l:List (DataW Unit)) (j:Nat),((l.take j).map (size subs n)).sum<=(l.map (size subs n)).sum:=by
   intro l
   induction l with
   | nil=>intro j;simp
   | cons y r ih=>
    intro j;cases j with
    | zero=>simp
    | succ j=>have:=ih j;simp only[List.take_succ_cons,List.map_cons,List.sum_cons];omega
  have:=this ts j
  omega
 have hW0:∀(A' : Nat->Prop) (W:World),Fr A w A' W->Below W0.heap.size W0 W/\∀b,A' b->W0.heap.size<=b:=fun A' W hF=>⟨hB.trans (hF.toBelow hbase (fun k hk h=>by have:=hA k h;omega)),fun k hk=>by
  rcases hF.sub k hk with h | h
  ·exact hA k h
  ·omega⟩
 have hsum:(ts.map (size subs n)).sum<=ts.length * (ts.map (size subs n)).sum:=Nat.le_mul_of_pos_left _ oo
 -- a round
 have HR:Hid (∀(j:Nat) (u:Value) (W:World),j<len->gZg (iM gs n) ts w w3 B (.slice ga gl gc) A L next j u W->∃b o kx sx ax lx cx,a=some ⟨b,o,none⟩/\W.cell? ⟨b,o+j * 3,none⟩=some (.int .i64 kx)/\W.cell? ⟨b,o+j * 3+1,none⟩=some (.string sx)/\W.cell? ⟨b,o+j * 3+2,none⟩=some (.slice ax lx cx) ∧
   (W.alloc (.cells #[.int .i64 kx,.string sx,.slice ax lx cx] 69)).cell? ⟨w.heap.size,0,none⟩=some (.pointer (some ⟨B,0,none⟩))/\(W.alloc (.cells #[.int .i64 kx,.string sx,.slice ax lx cx] 69)).cell? ⟨w.heap.size+2,0,none⟩=some (.int .i64 (next:Int)) ∧
   Calls Tryz.prog 118 #[.pointer (some ⟨B,0,none⟩),.agg #[.int .i64 kx,.string sx,.slice ax lx cx],.int .i64 (next:Int)] (W.alloc (.cells #[.int .i64 kx,.string sx,.slice ax lx cx] 69)) fun e W2=>∃f:Int,e=.returned (.int .i64 f) ∧
    ∃a2 n2 c2 W4,(Builtin.append_ #[61,61] 61 #[u,.slice (some ⟨W2.heap.size,0,none⟩) 1 1]).run Tryz.prog (W2.alloc (.cells #[.int .i64 f] 3))=.ok (.slice a2 n2 c2) W4/\gZg (iM gs n) ts w w3 B (.slice ga gl gc) A L next (j+1) (.slice a2 n2 c2) W4):=by
  rintro j u W hj ⟨A', i1,i2,i3,i4,i5,i6,i7⟩;obtain⟨b,o,x,kx,sx,ax,lx,cx,ea,hlt,hx,hcx⟩:=pM hl hk hj;obtain⟨hBW,hAW⟩:=hW0 A' W i6;obtain⟨p0,p1,p2,_⟩:=hcx W hBW;have hEx:=(hcx W0 (zzd _ _)).2.2.2;obtain⟨W1,hW1⟩:∃W1,W1=W.alloc (.cells #[.int .i64 kx,.string sx,.slice ax lx cx] 69):=⟨_,rfl⟩;(have hb1:Below W.heap.size W W1:=by rw[hW1];exact(zzd _ W).alloc (zzb _) _);have hs1:W1.heap.size=W.heap.size+1:=by rw[hW1];simp
  obtain⟨d0,_,_,_,d4⟩:=oJ (w:=w) (X:=W1) (B:=B) (k:=3) (s:=s) (a:=a) (len:=len) (cap:=cap) (next:=next) (fun b hb=>by
   rw[<-hw3,<-i4 b hb]
   exact hb1.block _ oo)
  refine⟨b,o,kx,sx,ax,lx,cx,ea,p0,p1,p2,by rw[<-hW1];exact d0,by rw[<-hW1];exact d4,?_⟩;rw[<-hW1];obtain⟨g1,g2,g3,g4,g5⟩:=hpre j;have hxm:=zzj hx;have hnx:=sR (f:=qQ subs n) ts hxm;(have hst:ts.take (j+1)=ts.take j++[x]:=by rw[List.take_add_one,hx];rfl);refine(hlay x _ W1 next (fun k=>A' k/\k<W.heap.size) B _ hEx (hS x hxm) (hBW.trans (hb1.mono hBW.size)) (fun k h=>hAW k h.1) (i1.tight.kept (fun _ h=>h) fun k hk _=>hb1.block k hk) g1 g3 oo).mono ?_;rintro e W2 ⟨rfl,A2,hP2,hF2⟩;have hs2:=hF2.below.size;refine⟨_,rfl,?_⟩;obtain⟨W3,hW3⟩:∃W3,W3=W2.alloc (.cells #[.int .i64 ((iM gs n x next (gP (iM gs n) next (ts.take j) L []).1).2:Int)] 3):=⟨_,rfl⟩;(have hb23:Below W2.heap.size W2 W3:=by rw[hW3];exact(zzd _ W2).alloc (zzb _) _);have hs33:W3.heap.size=W2.heap.size+1:=by rw[hW3];simp
  -- a block that is none of the plan's is as it was
  have hkeep:∀k,k<W.heap.size->¬A' k->W3.heap[k]? = W.heap[k]? := fun k hk h=>by
   rw[hb23.block k oo,hF2.same k oo (fun h1=>h h1.1),hb1.block k hk]
  have hu:W3.ownsRow 0 3 1 u (gP (iM gs n) next (ts.take j) L []).2.length (lU (gP (iM gs n) next (ts.take j) L []).2):=gF i2 fun g hg=>hkeep g (gC i2 hg).1 (i3 g hg).1
  obtain⟨i0,hI,hz0,hz1,hz2⟩:=info_parts gEu
  obtain⟨v', W4,hrun,r1,r2,_,r4⟩:=run_append_own_at (P:=Tryz.prog) W3 0 61 61 3 i0 _ 1 8 Tryz.underlying61 hI hz0 hz1 hz2 rfl (by decide) u _ _ hu ⟨W2.heap.size,0,none⟩ 1 1 [.int .i64 ((iM gs n x next (gP (iM gs n) next (ts.take j) L []).1).2:Int)] rfl (by rw[hW3];exact cell_one_new W2 _ _) (fun y hy=>by
   simp at hy;subst hy
   rfl) (by unfold maxLen;omega) oo (zzn _)
  obtain⟨g', c', ev,_⟩:=gY r1 oo;subst ev;rw[<-hW3];refine⟨_,_,_,W4,hrun,fun k=>A2 k/\k<W2.heap.size,?_,?_,fun g hg=>?_,fun b hb=>?_,fun b hb h=>?_,?_,?_⟩
  ·rw[hst,gQe]
   (refine hP2.tight.kept (fun _ h=>h) fun k hk hA2=>?_);rw[r2.block k oo (fun e=>?_),hb23.block k hk];have hgu:=i3 k e.symm;have hult:=(gC i2 e.symm).1;rcases hF2.sub k hA2.1 with h | h
   ·exact hgu.1 h.1
   ·omega
  ·rw[hst,gQe]
   have:=r1
   rw[show (lU ((gP (iM gs n) next (ts.take j) L []).2++[(iM gs n x next (gP (iM gs n) next (ts.take j) L []).1).2]))=lU (gP (iM gs n) next (ts.take j) L []).2++[.int .i64 ((iM gs n x next (gP (iM gs n) next (ts.take j) L []).1).2:Int)] from gAx _ _,List.length_append];exact this
  ·rcases r4 with e | e
   ·rw[e] at hg
    have hgu:=i3 g hg;have hult:=(gC i2 hg).1;refine⟨fun h=>?_,hgu.2⟩;rcases hF2.sub g h.1 with h1 | h1
    ·exact hgu.1 h1.1
    ·omega
   ·rw[e] at hg
    cases hg;exact⟨fun h=>by have:=h.2;omega,oo⟩
  ·rw[r2.block _ oo (fun e=>by have:=(i3 _ e.symm).2;omega),hkeep _ oo (i5 b hb)]
   exact i4 b hb
  ·rcases hF2.sub _ h.1 with h1 | h1
   ·exact i5 b hb h1.1
   ·omega
  ·have hF:Fr A w A2 W2:=i6.trans (Fr.trans (Fr.of_below hb1) (hF2.wide (A:=A') fun _ h=>h.1))
   refine⟨⟨r2.os.trans (hb23.os.trans hF.below.os),r2.tape.trans (hb23.tape.trans hF.below.tape),r2.output.trans (hb23.output.trans hF.below.output),by have:=r2.size;have:=hF.below.size;omega,fun k hk=>absurd hk oo⟩,fun k hk hn=>?_,fun k hk=>hF.sub k hk.1⟩
   have:=hF.below.size
   rw[r2.block k oo (fun e=>by have:=(i3 k e.symm).2;omega),hb23.block k oo,hF.same k hk hn]
  ·have:=r2.size
   omega
 have HD:Hid (∀(u:Value) (W:World),gZg (iM gs n) ts w w3 B (.slice ga gl gc) A L next len u W->∃a2 n2 c2,u=.slice a2 n2 c2/\W.cell? ⟨w.heap.size,0,none⟩=some (.pointer (some ⟨B,0,none⟩))/\Calls Tryz.prog 149 #[.pointer (some ⟨B,0,none⟩),u] W fun e w' => e=.returned (.int .i64 ((jH (gP (iM gs n) next ts L []).1 (gP (iM gs n) next ts L []).2).2:Int))/\∃A', iA A' w' B (.slice ga gl gc) (jH (gP (iM gs n) next ts L []).1 (gP (iM gs n) next ts L []).2).1/\Fr A w A' w'):=by
  rintro u W ⟨A', i1,i2,i3,i4,i5,i6,i7⟩;obtain⟨g1,g2,g3,g4,g5⟩:=hpre len;have hall:ts.take len=ts:=zzm (Nat.le_of_eq hl);rw[hall] at g1 g2 g3 g4 g5 i1 i2;(have hpos:0<(gP (iM gs n) next ts L []).2.length:=by rw[g5];omega);obtain⟨g', c', ev,_⟩:=gY i2 hpos;subst ev
  obtain⟨d0,_,_,_,d4⟩:=oJ (w:=w) (X:=W) (B:=B) (k:=3) (s:=s) (a:=a) (len:=len) (cap:=cap) (next:=next) (fun b hb=>by
   rw[<-hw3]
   exact i4 b hb)
  refine⟨_,_,_,rfl,d0,?_⟩;refine(zZ A' B (.slice ga gl gc) _ W _ _ _ _ i1 i2 (fun g hg=>(i3 g hg).1) oo (fun e=>by rw[e] at hpos;exact Nat.lt_irrefl _ hpos) g2 oo (fun p=>by have:=g1.least_lt p;omega)).mono ?_;rintro e W2 ⟨rfl,A2,hP2,hF2⟩;refine⟨rfl,A2,hP2,Fr.trans (A' := fun k=>A' k\/(Value.slice (some ⟨g', 0,none⟩) (gP (iM gs n) next ts L []).2.length c').ownBlock=some k) (w' := W) ?_ hF2⟩;refine⟨i6.below,i6.same,fun k hk=>?_⟩;rcases hk with h | h
  ·exact i6.sub k h
  ·have:=(i3 k h).2
   exact .inr oo
 have HI0:Hid (gZg (iM gs n) ts w w3 B (.slice ga gl gc) A L next 0 (.slice none 0 0) w3):=by
  refine⟨fun k=>A k/\k<w.heap.size,hP.tight.kept (fun _ h=>h) fun k hk _=>hb3.block k hk,World.ownsRow_nil ..,fun g hg=>(by cases hg),fun _ _=>rfl,fun b hb h=>(by have:=h.2;omega),(Fr.of_below hb3).wide (A1:=fun k=>A k/\k<w.heap.size) (fun _ h=>h.1),zzb _⟩
 have hw3' : Hid (((w.alloc (.cells #[.pointer (some ⟨B,0,none⟩)] 164)).alloc (.cells #[.int .i64 3,.string s,.slice a len cap] 69)).alloc (.cells #[.int .i64 (next:Int)] 3)=w3):=hw3.symm
 generalize jH (gP (iM gs n) next ts L []).1 (gP (iM gs n) next ts L []).2=r at *
 obtain⟨RL,rf⟩:=r
 simp only at *
 clear hP hB hA hwf hS hlay hk hW0 hpre hgood hneed hlen hw3 hb3 hsum
 generalize iM gs n=f at *
 go_enter Tryz.func118,Tryz.ntmps118
 go_wp2_with fail
 rw[hw3'.out]
 go_loopw [9,57] (fun u i wr=>∃j:Nat,j<=len/\i=.int .i64 (j:Int)/\gZg f ts w w3 B (.slice ga gl gc) A L next j u wr) (fun _ i _=>len - (intOf i).toNat)
 case atStart=>exact⟨0,oo,rfl,HI0.out⟩
 case round=>
  obtain⟨j,hj,rfl,hI⟩:=hrel
  by_cases hlt:j<len
  ·obtain⟨b,o,kx,sx,ax,lx,cx,ea,p0,p1,p2,d0,d4,hC⟩:=HR.out j _ wr hlt hI
   subst ea;(have hji:(j:Int)<(len:Int):=by omega);clear hI HD HI0;(go_wp2_with fail);refine hC.mono ?_;rintro e W2 ⟨f1,rfl,a2,n2,c2,W4,hrun,hI4⟩;have HI4:Hid (gZg f ts w w3 B (.slice ga gl gc) A L next (j+1) (.slice a2 n2 c2) W4):=hI4;clear hI4 hC;go_wp2_with (refine iW rfl _ _ 61 rfl _ _ (.slice a2 n2 c2) W4 rfl rfl hrun ?_)
   go_roundw
   case rel=>exact⟨j+1,oo,rfl,HI4.out⟩
   case measure=>simp[intOf];omega
  ·obtain rfl:j=len:=by omega
   obtain⟨a2,n2,c2,rfl,d0,hC⟩:=HD.out _ wr hI;clear hI HR HI0;(go_wp2_with fail);refine hC.mono ?_;rintro e W2 ⟨rfl,A2,hP2,hF2⟩;go_wp2;go_ret;exact⟨rfl,A2,hP2,hF2⟩
end Go.Proofs.YtjkebndkeamijaaGreatDoor
