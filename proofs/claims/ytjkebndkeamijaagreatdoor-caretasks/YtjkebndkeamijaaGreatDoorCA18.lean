/-
  PROVED HERE: what the texts DAReadK, DAReadA, DAIsNm say.
-/
import Derived.Test.YtjkebndkeamijaaGreatDoorCA17
import Derived.Laws.RangeString
set_option maxRecDepth 100000
set_option maxHeartbeats 1000000
namespace Go.Proofs.YtjkebndkeamijaaGreatDoor
open Go.RowKit
theorem gAp {w:World}{base:Nat}{e:TypeId}{sz g n cap:Nat}{xs:List Value}(h:w.ownsRow base e sz (.slice (some ⟨g,0,none⟩) n cap) n xs)(k:Nat)(u:Value):(w.setCell ⟨g,k,none⟩ u).ownsRow base e sz (.slice (some ⟨g,0,none⟩) n cap) n (xs.set k u):=by
 exact k53
def kI (s:ByteArray)(gs:List Grp):Int:=if nZ s≠0 then nZ s else chk 200 (gO s) gs
theorem gVu (l r:List Value)(a b c:Value)(x y z u v w p:Value)(hl:l=[x,y,z,u,v,w,p]):∀(d e f:Value),((((l++[d,e,f])++r).set 7 a).set 8 b).set 9 c=(l++[a,b,c])++r:=by
 intro d e f
 subst hl
 rfl
theorem gTl:∀(ks:List gN) (i:Nat) (x:gN) (r:Raw),ks[i]? = some x->(((kJ ks).set (i * 10+7) (.int .i64 r.1)).set (i * 10+7+1) (.string r.2.1)).set (i * 10+7+2) (.slice r.2.2.1 r.2.2.2.1 r.2.2.2.2)=kJ (ks.set i (x.1,r.1,r.2.1,r.2.2.1,r.2.2.2.1,r.2.2.2.2)):=by
 intro ks
 induction ks with
 | nil=>intro i x r h;simp at h
 | cons y q ih=>
  intro i x r h;cases i with
  | zero=>
   simp only[List.getElem?_cons_zero,Option.some.injEq] at h;subst h;rw[List.set_cons_zero,kJ,kJ];exact gVu (gFg y.1) (kJ q) _ _ _ _ _ _ _ _ _ _ rfl _ _ _
  | succ i=>
   rw[List.getElem?_cons_succ] at h;rw[List.set_cons_succ,kJ,kJ,<-ih i x r h]
   have e:∀(L:List Value) (k:Nat) (v:Value),(tA y++L).set ((i+1) * 10+7+k) v=tA y++L.set (i * 10+7+k) v:=fun L k v=>by
    rw[List.set_append_right _ _ (by rw[oW];omega),oW]
    congr 2
    omega
   have e0:=e (kJ q) 0 (.int .i64 r.1);rw[Nat.add_zero,Nat.add_zero] at e0;rw[e0,e _ 1,e _ 2]
theorem Nms.grown {base:Nat}{W W' : World}{v:Value}{xs:List mD}{g:Nat}{c:Array Value}{f:Nat×Nat}(h:Nms base W v xs)(hg:W.grownBy W' (some g))(hk:W.heap[g]? = some (.cells c 81 f)):Nms base W' v xs:=by
 have hne:∀(k:Nat) c' t f', W.heap[k]? = some (.cells c' t f')->t≠81->some k≠some g:=fun k c' t f' hk' ht e=>by
  (injection e with e);subst e;rw[hk] at hk';(injection hk' with hk');(injection hk' with _ h2 _);exact ht h2.symm
 refine⟨gF h.row fun k hk' => ?_,fun x hx=>⟨gF (h.ok x hx).1 fun k hk' => ?_,(h.ok x hx).2⟩⟩
 ·obtain⟨hl,cur,hcur⟩:=gC h.row hk'
  exact hg.block k hl (hne k cur _ _ hcur (by decide))
 ·obtain⟨hl,cur,hcur⟩:=gC (h.ok x hx).1 hk'
  exact hg.block k hl (hne k cur _ _ hcur (by decide))
theorem rJ {w w' : World}{g:Nat}(h:Below w.heap.size w w'):w.grownBy w' (some g):=⟨h.os,h.tape,h.output,h.size,fun k hk _=>h.block k hk⟩
theorem nL {w w' w'' : World}{g:Option Nat}(h:w.grownBy w' g)(h' : w'.grownBy w'' g):w.grownBy w'' g:=⟨h'.os.trans h.os,h'.tape.trans h.tape,h'.output.trans h.output,Nat.le_trans h.size h'.size,fun k hk hne=>(h'.block k (zzl hk h.size) hne).trans (h.block k hk hne)⟩
theorem gCt (w:World)(g o:Nat)(u:Value):w.grownBy (w.setCell ⟨g,o,none⟩ u) (some g):=⟨rfl,rfl,rfl,Nat.le_of_eq (by simp),fun k _ hne=>zzh w _ u k (fun e=>hne (by rw[e]))⟩
theorem gDp (base base' g c i:Nat)(ks:List gN)(x:gN)(s:ByteArray)(w:World)(ng nc:Nat)(xs:List mD)(hown:w.ownsRow base 81 10 (.slice (some ⟨g,0,none⟩) ks.length c) ks.length (kJ ks))(hx:ks[i]? = some x)(hN:Nms base' w (.slice (some ⟨ng,0,none⟩) xs.length nc) xs)(hxl:xs.length<=1000)(hs:s.size<=9223372036854775807)(hE:ETy w) :
  Calls Tryz.prog 92 #[.pointer (some ⟨g,i * 10,none⟩),.string s,.slice (some ⟨ng,0,none⟩) xs.length nc] w fun e w' => e=.returned (.int .i64 (kI s (xs.map iP)))/\w.grownBy w' (some g)/\∃ks' : List gN,ks'.map (·.1)=ks.map (·.1)/\w'.ownsRow base 81 10 (.slice (some ⟨g,0,none⟩) ks.length c) ks.length (kJ ks')/\(kI s (xs.map iP)=0->∃r:Raw,ks' = ks.set i (x.1,r.1,r.2.1,r.2.2.1,r.2.2.2.1,r.2.2.2.2)/\ExA (fun b=>w.heap.size<=b) w' 200 (gO s) (jI r)):=by
 have hP:=gKw s hs w hE
 have hg:=(gC hown (g:=g) rfl)
 obtain⟨f,hf⟩:∃f,f=nZ s:=⟨_,rfl⟩
 by_cases h0:f≠0
 ·have HP:Hid (Calls Tryz.prog 124 #[.string s] w fun e w' => Below w.heap.size w w' /\ ∃(k:Int) (nm:ByteArray) (a:Option Addr) (ln cp:Nat) (pn:Int),e=.returned (.tuple #[.agg #[.int .i64 k,.string nm,.slice a ln cp],.int .i64 pn,.int .i64 f])):=by
   refine hP.mono ?_;rintro e w' ⟨h1,⟨k,nm,a,ln,cp⟩,_,rfl⟩;exact⟨h1,k,nm,a,ln,cp,_,by rw[hf];rfl⟩
  have e0:(f==0)=false:=by simpa using h0
  have e1:(f != 0)=true:=by simp[bne,e0]
  have HR:Hid (kI s (xs.map iP)=f):=by
   show kI s (xs.map iP)=f
   unfold kI;rw[<-hf,if_pos h0]
  (have HOW:Hid (∀X,Below w.heap.size w X->X.ownsRow base 81 10 (.slice (some ⟨g,0,none⟩) ks.length c) ks.length (kJ ks)):=fun X hX=>gF hown fun k hk=>hX.block k (gC hown hk).1);clear hP hg hown hN hx hs hE hf;go_enter Tryz.func92,Tryz.ntmps92;(go_wp2_with fail);refine HP.out.mono ?_;rintro e W ⟨hB,k,nm,a,ln,cp,pn,rfl⟩;have HB:Hid (w.grownBy (W.alloc (.cells #[.int .i64 k,.string nm,.slice a ln cp] 69)) (some g)/\(W.alloc (.cells #[.int .i64 k,.string nm,.slice a ln cp] 69)).ownsRow base 81 10 (.slice (some ⟨g,0,none⟩) ks.length c) ks.length (kJ ks)):=⟨rJ (hB.alloc hB.size _),HOW.out _ (hB.alloc hB.size _)⟩;clear hB HP;go_wp2;go_ret;exact⟨by rw[HR.out];rfl,HB.out.1,ks,rfl,HB.out.2,fun h=>absurd (HR.out.symm.trans h) h0⟩
 ·have h0:f=0:=Classical.not_not.1 h0
  subst h0
  have HP:Hid (Calls Tryz.prog 124 #[.string s] w fun e w' => Below w.heap.size w w' /\ ∃(k:Int) (nm:ByteArray) (a:Option Addr) (ln cp:Nat) (pn:Int),ExA (fun b=>w.heap.size<=b) w' 200 (gO s) (jI (k,nm,a,ln,cp))/\e=.returned (.tuple #[.agg #[.int .i64 k,.string nm,.slice a ln cp],.int .i64 pn,.int .i64 0])):=by
   refine hP.mono ?_;rintro e w' ⟨h1,⟨k,nm,a,ln,cp⟩,h2,rfl⟩;exact⟨h1,k,nm,a,ln,cp,_,h2,by rw[<-hf];rfl⟩
  have HR:Hid (kI s (xs.map iP)=chk 200 (gO s) (xs.map iP)):=by
   show kI s (xs.map iP)=chk 200 (gO s) (xs.map iP)
   unfold kI;rw[<-hf,if_neg (by simp)]
  have HMAIN:Hid (∀(W:World) (k:Int) (nm:ByteArray) (a:Option Addr) (ln cp:Nat),Below w.heap.size w W->ExA (fun b=>w.heap.size<=b) W 200 (gO s) (jI (k,nm,a,ln,cp))->∀V,V=W.alloc (.cells #[.int .i64 k,.string nm,.slice a ln cp] 69)->(∃v0,V.cell? ⟨g,i * 10+7,none⟩=some v0)/\(∃v1,(V.setCell ⟨g,i * 10+7,none⟩ (.int .i64 k)).cell? ⟨g,i * 10+7+1,none⟩=some v1)/\(∃v2,((V.setCell ⟨g,i * 10+7,none⟩ (.int .i64 k)).setCell ⟨g,i * 10+7+1,none⟩ (.string nm)).cell? ⟨g,i * 10+7+2,none⟩=some v2)/\(V.frozen? ⟨g,i * 10+7,none⟩=false/\(V.setCell ⟨g,i * 10+7,none⟩ (.int .i64 k)).frozen? ⟨g,i * 10+7+1,none⟩=false/\((V.setCell ⟨g,i * 10+7,none⟩ (.int .i64 k)).setCell ⟨g,i * 10+7+1,none⟩ (.string nm)).frozen? ⟨g,i * 10+7+2,none⟩=false) ∧
    ∀Z,Z=(((V.setCell ⟨g,i * 10+7,none⟩ (.int .i64 k)).setCell ⟨g,i * 10+7+1,none⟩ (.string nm)).setCell ⟨g,i * 10+7+2,none⟩ (.slice a ln cp))->Z.cell? ⟨W.heap.size,0,none⟩=some (.int .i64 k)/\Z.cell? ⟨W.heap.size,1,none⟩=some (.string nm)/\Z.cell? ⟨W.heap.size,2,none⟩=some (.slice a ln cp)/\Calls Tryz.prog 117 #[.agg #[.int .i64 k,.string nm,.slice a ln cp],.slice (some ⟨ng,0,none⟩) xs.length nc] Z fun e w' => e=.returned (.int .i64 (chk 200 (gO s) (xs.map iP)))/\w.grownBy w' (some g)/\∃r:Raw,w'.ownsRow base 81 10 (.slice (some ⟨g,0,none⟩) ks.length c) ks.length (kJ (ks.set i (x.1,r.1,r.2.1,r.2.2.1,r.2.2.2.1,r.2.2.2.2)))/\ExA (fun b=>w.heap.size<=b) w' 200 (gO s) (jI r)):=by
   intro W k nm a ln cp hB hX V hV;(have hBV:Below w.heap.size w V:=by rw[hV];exact hB.alloc hB.size _);(have hOV:V.ownsRow base 81 10 (.slice (some ⟨g,0,none⟩) ks.length c) ks.length (kJ ks):=gF hown fun k hk=>hBV.block k (gC hown hk).1);have hil:i<ks.length:=(zzc.1 hx).1
   have cell:∀(Y:World) (L:List Value) (q:Nat),Y.ownsRow base 81 10 (.slice (some ⟨g,0,none⟩) ks.length c) ks.length L->q<ks.length * 10->∃v,Y.cell? ⟨g,q,none⟩=some v:=fun Y L q hY hq=>by
    obtain⟨g', cap', e,hc⟩:=gY hY oo;(injection e with e1);(injection e1 with e1);(injection e1 with e1);subst e1;have hl:=hY.1;exact⟨_,hc q _ (zze (by rw[hl];exact hq))⟩
   have froz:∀(Y:World) (L:List Value) (q:Nat),Y.ownsRow base 81 10 (.slice (some ⟨g,0,none⟩) ks.length c) ks.length L->Y.frozen? ⟨g,q,none⟩=false:=fun Y L q hY=>by
    obtain⟨_,cur,hcur⟩:=gC hY (g:=g) rfl;simp[World.frozen?,hcur]
   have o1:=gAp hOV (i * 10+7) (.int .i64 k);have o2:=gAp o1 (i * 10+7+1) (.string nm);have o3:=gAp o2 (i * 10+7+2) (.slice a ln cp);rw[gTl ks i x (k,nm,a,ln,cp) hx] at o3;refine⟨cell _ _ _ hOV oo,cell _ _ _ o1 oo,cell _ _ _ o2 oo,⟨froz _ _ _ hOV,froz _ _ _ o1,froz _ _ _ o2⟩,fun Z hZ=>?_⟩;rw[<-hZ] at o3
   have gVZ:V.grownBy Z (some g):=by
    rw[hZ];exact nL (nL (gCt _ _ _ _) (gCt _ _ _ _)) (gCt _ _ _ _)
   have gwZ:w.grownBy Z (some g):=nL (rJ hBV) gVZ;(have mV:V.heap[W.heap.size]? = some (.cells #[.int .i64 k,.string nm,.slice a ln cp] 69 (0,0)):=by rw[hV];exact World.alloc_heap_new W _);have hgW:g<W.heap.size:=zzl hg.1 hB.size;have mZ:Z.heap[W.heap.size]? = some (.cells #[.int .i64 k,.string nm,.slice a ln cp] 69 (0,0)):=(gVZ.block _ (zza.1 mV).1 (by intro e;injection e with e;omega)).trans mV;have hc:=fun j=>cell_of_row Z W.heap.size j _ _ _ mZ
   have hXZ:ExA (fun b=>w.heap.size<=b) Z 200 (gO s) (jI (k,nm,a,ln,cp)):=by
    have hXV:ExA (fun b=>w.heap.size<=b) V 200 (gO s) (jI (k,nm,a,ln,cp)):=ExA.kept (by rw[hV];simp) (fun b hb hA=>⟨hA,by rw[hV];exact zzf W _ _ hb⟩) _ _ _ hX;exact ExA.kept gVZ.size (fun b hb hA=>⟨hA,gVZ.block b hb (by intro e;injection e with e;omega)⟩) _ _ _ hXV
   obtain⟨_,cur,hcur⟩:=gC hOV (g:=g) rfl
   have hNZ:Nms base' Z (.slice (some ⟨ng,0,none⟩) xs.length nc) xs:=by
    have hNV:Nms base' V (.slice (some ⟨ng,0,none⟩) xs.length nc) xs:=hN.below hBV;exact hNV.grown gVZ hcur
   refine⟨hc 0,hc 1,hc 2,?_⟩;refine(vD 200 (gO s) _ (some ⟨ng,0,none⟩) xs.length nc (xs.map iP) Z (ExA.ex _ _ _ hXZ) (uN s) (hNZ.groups rfl oo)).mono ?_;rintro e w' ⟨rfl,hB'⟩;refine⟨rfl,nL gwZ (rJ hB'),(k,nm,a,ln,cp),gF o3 fun q hq=>hB'.block q (gC o3 hq).1,?_⟩;exact ExA.kept hB'.size (fun b hb hA=>⟨hA,hB'.block b hb⟩) _ _ _ hXZ
  have HSET:Hid (∀r:Raw,(ks.set i (x.1,r.1,r.2.1,r.2.2.1,r.2.2.2.1,r.2.2.2.2)).map (·.1)=ks.map (·.1)):=fun r=>by
   rw[List.map_set];(refine List.ext_getElem? fun q=>?_);rw[List.getElem?_set]
   split
   ·rename_i e'
    subst e';rw[List.length_map,if_pos (zzc.1 hx).1,List.getElem?_map,hx]
    rfl
   ·rfl
  clear hP hown hN hx hs hE hf hg;have hf0:((0:Int) != 0)=false:=rfl;go_enter Tryz.func92,Tryz.ntmps92;(go_wp2_with fail);refine HP.out.mono ?_;rintro e W ⟨hB,k,nm,a,ln,cp,pn,hX,rfl⟩;obtain⟨⟨v0,hv0⟩,⟨v1,hv1⟩,⟨v2,hv2⟩,⟨f0,f1,f2⟩,hZ⟩:=HMAIN.out W k nm a ln cp hB hX _ rfl;obtain⟨z0,z1,z2,HC⟩:=hZ _ rfl;clear hB hX HP HMAIN hZ;(go_wp2_with fail);refine HC.mono ?_;rintro e W3 ⟨rfl,h1,h2⟩;have HE:Hid (w.grownBy W3 (some g)/\∃r:Raw,W3.ownsRow base 81 10 (.slice (some ⟨g,0,none⟩) ks.length c) ks.length (kJ (ks.set i (x.1,r.1,r.2.1,r.2.2.1,r.2.2.2.1,r.2.2.2.2)))/\ExA (fun b=>w.heap.size<=b) W3 200 (gO s) (jI r)):=⟨h1,h2⟩;clear h1 h2 HC;go_wp2;go_ret;obtain⟨q1,r,q2,q3⟩:=HE.out;exact⟨by rw[HR.out];rfl,q1,_,HSET.out r,q2,fun _=>⟨r,rfl,q3⟩⟩
def kL:List ByteArray->List Grp->Int
 | [],_=>0
 | s::r,gs=>if kI s gs≠0 then kI s gs else kL r gs
theorem gJj:∀(ss:List ByteArray) (gs:List Grp) (i:Nat) (s:ByteArray),ss[i]? = some s->(∀(j:Nat) (q:ByteArray),j<i->ss[j]? = some q->kI q gs=0)->kI s gs≠0->kL ss gs=kI s gs:=by
 intro ss gs
 induction ss with
 | nil=>intro i s h;simp at h
 | cons x r ih=>
  intro i s h hz hne;cases i with
  | zero=>
   simp only[List.getElem?_cons_zero,Option.some.injEq] at h;subst h;rw[kL,if_pos hne]
  | succ i=>
   rw[List.getElem?_cons_succ] at h;rw[kL,if_neg (by rw[hz 0 x oo rfl];simp)];exact ih i s h (fun j q hj hq=>hz (j+1) q oo (by rw[List.getElem?_cons_succ];exact hq)) hne
theorem gDv:∀(ss:List ByteArray) (gs:List Grp),(∀(j:Nat) (q:ByteArray),ss[j]? = some q->kI q gs=0)->kL ss gs=0:=by
 intro ss gs
 induction ss with
 | nil=>intro _;rfl
 | cons x r ih=>
  intro hz;rw[kL,if_neg (by rw[hz 0 x rfl];simp)];exact ih (fun j q hq=>hz (j+1) q (by rw[List.getElem?_cons_succ];exact hq))
structure RdI (base:Nat) (w0:World) (B g c ng nc:Nat) (xs:List mD) (ss:List ByteArray) (sp:List gV) (wr:World) (ks:List gN) (m:Nat):Prop where
 sch:wr.heap[B]? = some (.cells #[.slice (some ⟨g,0,none⟩) ks.length c,.slice (some ⟨ng,0,none⟩) xs.length nc] 86 (0,0))
 row:wr.ownsRow base 81 10 (.slice (some ⟨g,0,none⟩) ks.length c) ks.length (kJ ks)
 nms:Nms base wr (.slice (some ⟨ng,0,none⟩) xs.length nc) xs
 spec:ks.map (·.1)=sp
 tree:∀(j:Nat) (x:gN) (s:ByteArray),j<m->ks[j]? = some x->ss[j]? = some s->ExA (fun b=>b≠g) wr 200 (gO s) (jI x.2)
 zero:∀(j:Nat) (s:ByteArray),j<m->ss[j]? = some s->kI s (xs.map iP)=0
 grown:w0.grownBy wr (some g)
 ety:ETy wr
theorem RdI.cells {base:Nat}{w0:World}{B g c ng nc:Nat}{xs:List mD}{ss:List ByteArray}{sp:List gV}{wr:World}{ks:List gN}{m:Nat}(h:RdI base w0 B g c ng nc xs ss sp wr ks m):wr.cell? ⟨B,0,none⟩=some (.slice (some ⟨g,0,none⟩) ks.length c)/\wr.cell? ⟨B,1,none⟩=some (.slice (some ⟨ng,0,none⟩) xs.length nc):=by
 have hc:=fun j=>cell_of_row wr B j _ _ _ h.sch
 exact⟨hc 0,hc 1⟩
theorem RdI.expr {base:Nat}{w0:World}{B g c ng nc:Nat}{xs:List mD}{ss:List ByteArray}{sp:List gV}{wr:World}{ks:List gN}{m:Nat}(h:RdI base w0 B g c ng nc xs ss sp wr ks m){i:Nat}{x:gN}(hx:ks[i]? = some x):wr.cell? ⟨g,i * 10+1,none⟩=some (.string x.1.expr):=((gBe h.row).2 i x hx).2.1
theorem k96{p:Prop}(h:p:=by
  injection e with e
  subst e
  have:=h.sch
  rw[hcur] at this;(injection this with this);(injection this with _ t2 _);exact absurd t2 (by decide)
  ):p:=h
theorem RdI.next {base:Nat}{w0:World}{B g c ng nc:Nat}{xs:List mD}{ss:List ByteArray}{sp:List gV}{wr Y:World}{ks:List gN}{m:Nat}(h:RdI base w0 B g c ng nc xs ss sp wr ks m){x:gN}{s:ByteArray}(hx:ks[m]? = some x)(hs:ss[m]? = some s)(hz:kI s (xs.map iP)=0)(hg:wr.grownBy Y (some g)){r:Raw}(hr:Y.ownsRow base 81 10 (.slice (some ⟨g,0,none⟩) ks.length c) ks.length (kJ (ks.set m (x.1,r.1,r.2.1,r.2.2.1,r.2.2.2.1,r.2.2.2.2))))(hX:ExA (fun b=>wr.heap.size<=b) Y 200 (gO s) (jI r))(he:ETy Y) :
  RdI base w0 B g c ng nc xs ss sp Y (ks.set m (x.1,r.1,r.2.1,r.2.2.1,r.2.2.2.1,r.2.2.2.2)) (m+1):=by
 obtain⟨hgl,cur,hcur⟩:=gC h.row (g:=g) rfl
 have hBg:some B≠some g:=fun e=>by
  exact k96
 refine⟨?_,by rw[List.length_set];exact hr,h.nms.grown hg hcur,?_,?_,?_,nL h.grown hg,he⟩
 ·rw[List.length_set]
  exact(hg.block B (zza.1 h.sch).1 hBg).trans h.sch
 ·rw[List.map_set,h.spec]
  have e:sp[m]? = some x.1:=by rw[<-h.spec,List.getElem?_map,hx];rfl
  refine List.ext_getElem? fun q=>?_
  rw[List.getElem?_set]
  split
  ·rename_i e'
   subst e';rw[if_pos (zzc.1 e).1,e]
  ·rfl
 ·intro j y q hj hy hq
  by_cases e:j=m
  ·subst e
   rw[List.getElem?_set,if_pos rfl,if_pos (zzc.1 hx).1] at hy;cases hy;rw[hs] at hq;cases hq;exact ExA.mono (fun b _ hb=>by omega) hX
  ·rw[List.getElem?_set,if_neg (fun e' => e e'.symm)] at hy
   exact ExA.kept hg.size (fun b hb hA=>⟨hA,hg.block b hb (fun e' => hA (by injection e'))⟩) _ _ _ (h.tree j y q oo hy hq)
 ·intro j q hj hq
  by_cases e:j=m
  ·subst e
   rw[hs] at hq;cases hq;exact hz
  ·exact h.zero j q oo hq
theorem ETy.grown {w w' : World}{g:Nat}(h:ETy w)(hg:w.grownBy w' (some g))(hne:1≠g):ETy w' := by
 have hl:=h.lt
 unfold ETy at h ⊢
 exact(zzi (hg.block 1 hl (by intro e;injection e with e;exact hne e))).trans h
def RdQ (base:Nat)(w0:World)(B g c ng nc:Nat)(xs:List mD)(ss:List ByteArray)(sp:List gV)(n:Nat)(Y:World)(f:Int)(m:Nat):Prop:=w0.grownBy Y (some g)/\Y.cell? ⟨B,0,none⟩=some (.slice (some ⟨g,0,none⟩) n c)/\((f=0/\∃ks,ks.length=n/\RdI base w0 B g c ng nc xs ss sp Y ks m)\/(f≠0/\kL ss (xs.map iP)=f))
theorem RdI.post {base:Nat}{w0:World}{B g c ng nc:Nat}{xs:List mD}{ss:List ByteArray}{sp:List gV}{wr:World}{ks:List gN}{m:Nat}(h:RdI base w0 B g c ng nc xs ss sp wr ks m)(hbase:1<base){x:gN}{s:ByteArray}(hx:ks[m]? = some x)(hs:ss[m]? = some s){q:Nat}{y:gN}(hy:ks[q]? = some y){X:World}(hBX:Below wr.heap.size wr X) :
  ∀(e:Ending) (Y:World),(e=.returned (.int .i64 (kI s (xs.map iP)))/\X.grownBy Y (some g)/\∃ks' : List gN,ks'.map (·.1)=ks.map (·.1)/\Y.ownsRow base 81 10 (.slice (some ⟨g,0,none⟩) ks.length c) ks.length (kJ ks')/\(kI s (xs.map iP)=0->∃r:Raw,ks' = ks.set m (x.1,r.1,r.2.1,r.2.2.1,r.2.2.2.1,r.2.2.2.2)/\ExA (fun b=>X.heap.size<=b) Y 200 (gO s) (jI r)))->e=.returned (.int .i64 (kI s (xs.map iP)))/\(Y.cell? ⟨B,0,none⟩=some (.slice (some ⟨g,0,none⟩) ks.length c)/\Y.cell? ⟨B,1,none⟩=some (.slice (some ⟨ng,0,none⟩) xs.length nc)/\Y.cell? ⟨g,q * 10+1,none⟩=some (.string y.1.expr))/\RdQ base w0 B g c ng nc xs ss sp ks.length Y (kI s (xs.map iP)) (m+1):=by
 rintro e Y ⟨rfl,hg0,ks', hsp,hrow,hr⟩
 have hg:wr.grownBy Y (some g):=nL (rJ hBX) hg0
 obtain⟨hgl,cur,hcur⟩:=gC h.row (g:=g) rfl
 have hgb:=iV h.row (g:=g) rfl
 have hBg:some B≠some g:=fun e=>by
  exact k96
 have hsY:=(hg.block B (zza.1 h.sch).1 hBg).trans h.sch
 have hc:=fun j=>cell_of_row Y B j _ _ _ hsY
 have hce:Y.cell? ⟨g,q * 10+1,none⟩=some (.string y.1.expr):=by
  (have hl:ks'.length=ks.length:=by have:=congrArg List.length hsp;rw[List.length_map,List.length_map] at this;exact this);(have e1:(ks'.map (·.1))[q]? = (ks.map (·.1))[q]? := by rw[hsp]);obtain⟨z,hz⟩:∃z,ks'[q]? = some z:=⟨_,zze (by have:=(zzc.1 hy).1;omega)⟩;rw[List.getElem?_map,List.getElem?_map,hz,hy] at e1;(have e2:z.1=y.1:=by simpa using e1);rw[<-hl] at hrow;rw[<-e2];exact((gBe hrow).2 q z hz).2.1
 refine⟨rfl,⟨hc 0,hc 1,hce⟩,nL h.grown hg,hc 0,?_⟩
 by_cases hz:kI s (xs.map iP)=0
 ·obtain⟨r,r1,r2⟩:=hr hz
  rw[r1] at hrow;exact .inl ⟨hz,_,by rw[List.length_set],h.next hx hs hz hg hrow (ExA.mono (fun b _ hb=>Nat.le_trans hBX.size hb) r2) (h.ety.grown hg oo)⟩
 ·exact .inr ⟨hz,gJj ss _ m s hs (fun j q hj hq=>h.zero j q hj hq) hz⟩
theorem RdI.below {base:Nat}{w0:World}{B g c ng nc:Nat}{xs:List mD}{ss:List ByteArray}{sp:List gV}{wr X:World}{ks:List gN}{m:Nat}(h:RdI base w0 B g c ng nc xs ss sp wr ks m)(hB:Below wr.heap.size wr X):RdI base w0 B g c ng nc xs ss sp X ks m :=
 ⟨(hB.block B (zza.1 h.sch).1).trans h.sch,gF h.row fun k hk=>hB.block k (gC h.row hk).1,h.nms.below hB,h.spec,fun j x s h1 h2 h3=>ExA.kept hB.size (fun b hb hA=>⟨hA,hB.block b hb⟩) _ _ _ (h.tree j x s h1 h2 h3),h.zero,nL h.grown (rJ hB),h.ety.below hB⟩
theorem gHn (base B g c ng nc:Nat)(xs:List mD)(whole:ByteArray)(ss:List ByteArray)(sp:List gV)(w:World)(ks:List gN)(h:RdI base w B g c ng nc xs ss sp w ks 0)(hbase:1<base)(h0:ss[0]? = some whole)(hss:∀(j:Nat) (x:gN),1<=j->ks[j]? = some x->ss[j]? = some x.1.expr)(hsl:ss.length=ks.length)(hsz:∀s∈ss,s.size<=9223372036854775807)(hlen:ks.length<=1000)(hxl:xs.length<=1000) :
  Calls Tryz.prog 57 #[.pointer (some ⟨B,0,none⟩),.string whole] w fun e w' => e=.returned (.int .i64 (kL ss (xs.map iP)))/\w.grownBy w' (some g)/\(kL ss (xs.map iP)=0->∃ks', ks'.length=ks.length/\RdI base w B g c ng nc xs ss sp w' ks' ks.length):=by
 have hpos:0<ks.length:=by have:=(zzc.1 h0).1;omega
 obtain⟨x0,hx0⟩:∃x,ks[0]? = some x:=⟨_,zze hpos⟩
 have HSP:Hid (∀(ks' : List gN) (Y:World) (m:Nat),RdI base w B g c ng nc xs ss sp Y ks' m->ks'.length=ks.length->∀(j:Nat) (x:gN),1<=j->ks'[j]? = some x->ss[j]? = some x.1.expr):=fun ks' Y m h' hl j x h1 hx=>by
  obtain⟨y,hy⟩:∃y,ks[j]? = some y:=⟨_,zze (by have:=(zzc.1 hx).1;omega)⟩;(have e1:(ks'.map (·.1))[j]? = (ks.map (·.1))[j]? := by rw[h'.spec,h.spec]);rw[List.getElem?_map,List.getElem?_map,hx,hy] at e1;(have e2:x.1=y.1:=by simpa using e1);rw[e2];exact hss j y h1 hy
 have HSZ:Hid (∀(j:Nat) (s:ByteArray),ss[j]? = some s->s.size<=9223372036854775807):=fun j s hs=>hsz s (zzj hs)
 have HB:Hid (1<base):=hbase
 have HXL:Hid (xs.length<=1000):=hxl
 have HSL:Hid (ss.length=ks.length):=hsl
 have HFZ:Hid (∀(Y:World) (ks' : List gN),RdI base w B g c ng nc xs ss sp Y ks' ks.length->kL ss (xs.map iP)=0):=fun Y ks' h' => gDv ss _ (fun j q hq=>h'.zero j q (by have:=(zzc.1 hq).1;omega) hq)
 have hBd:Below w.heap.size w w.drew:=(zzd _ _).drew
 have HRD:=Hid.mk_ (gDp base base g c 0 ks x0 whole w.drew ng nc xs (h.below hBd).row hx0 (h.below hBd).nms hxl (hsz _ (zzj h0)) (h.below hBd).ety)
 have HPOST:Hid (∀(e:Ending) (Y:World),_->e=.returned (.int .i64 (kI whole (xs.map iP)))/\(Y.cell? ⟨B,0,none⟩=some (.slice (some ⟨g,0,none⟩) ks.length c)/\Y.cell? ⟨B,1,none⟩=some (.slice (some ⟨ng,0,none⟩) xs.length nc)/\True)/\RdQ base w B g c ng nc xs ss sp ks.length Y (kI whole (xs.map iP)) 1):=fun e Y hp=>by
  obtain⟨r1,r2,r3⟩:=h.post hbase hx0 h0 hx0 hBd e Y hp;exact⟨r1,⟨r2.1,r2.2.1,trivial⟩,r3⟩
 have hcs:=h.cells
 have hli:(ks.length:Int)<=1000:=by omega
 have hpi:(0:Int)<(ks.length:Int):=by omega
 obtain⟨f0,hf0⟩:∃f0,f0=kI whole (xs.map iP):=⟨_,rfl⟩
 rw[Nat.zero_mul,<-hf0] at HRD
 rw[<-hf0] at HPOST
 clear h hss hsl hsz hbase hxl h0 hx0 hf0 hBd
 go_enter Tryz.func57,Tryz.ntmps57
 go_wp2_with fail
 refine wp_region_held_drew (S:=fun X=>X.cell? ⟨B,0,none⟩=some (.slice (some ⟨g,0,none⟩) ks.length c)/\X.cell? ⟨B,1,none⟩=some (.slice (some ⟨ng,0,none⟩) xs.length nc)/\True) hmx ⟨hcs.1,hcs.2,trivial⟩ (fun hS=>?_)
 refine gA 0 (some 7) hS ?_
 refine gA 1 (some 8) hS ?_
 refine gA 2 (some 9) hS ?_
 refine gA 3 (some 10) hS ?_ (hy:=by intro w hSw;obtain⟨k0,k1,k2⟩:=hSw;go_simp;with_reducible rfl)
 refine gA 4 (some 11) hS ?_
 refine gA 5 (some 12) hS ?_
 refine gA 6 (some 13) hS ?_
 refine gA 7 (some 14) hS ?_
 refine gA 8 (some 15) hS ?_
 refine gA 9 (some 16) hS ?_ (hy:=by intro w hSw;obtain⟨k0,k1,k2⟩:=hSw;go_simp;with_reducible rfl)
 refine gT 10 kr rfl (fun K hK=>?_)
 rw[if_pos (by rfl)]
 go_simp
 refine HRD.out.mono ?_
 rintro e Y hpost
 obtain⟨rfl,hSY,hpost⟩:=HPOST.out e Y hpost
 have HQ:=Hid.mk_ hpost
 clear hpost
 refine hK.out _ _ hSY (fun _=>?_)
 clear hK K
 try simp only[gQ]
 refine gA 11 (some 5) hSY ?_
 refine wpAnyH_done kr ?_ _
 go_wp2
 clear HRD HPOST hcs hSY hS
 go_loopg [5,6] (ks.length+1) (fun gk u v wr=>∃(i:Nat) (f:Int),1<=i/\ks.length<i+gk/\u=.int .i64 f/\v=.int .i64 (i:Int)/\i<=ks.length/\RdQ base w B g c ng nc xs ss sp ks.length wr f i)
 case atStart=>exact⟨1,f0,oo,oo,rfl,rfl,oo,HQ.out⟩
 case round=>
  obtain⟨i,f,hi1,hgk,rfl,rfl,hin,hq⟩:=hrel;clear HQ;obtain⟨hgr,hcb,hq⟩:=hq
  by_cases hlt:i<ks.length
  ·have hdi:decide ((i:Int)<(ks.length:Int))=true:=by simp;omega
   (have hii:(i:Int)<(ks.length:Int):=by omega);(have hi0:(0:Int)<=(i:Int):=by omega);rcases hq with ⟨rfl,ks1,hl1,hI⟩ | ⟨hf,hfe⟩
   ·have hf0:((0:Int)==0)=true:=rfl
    obtain⟨x,hx⟩:∃x,ks1[i]? = some x:=⟨_,zze oo⟩;have hs:=HSP.out ks1 wr i hI hl1 i x hi1 hx;have hBd:Below wr.heap.size wr wr.drew:=(zzd _ _).drew;have HRD:=Hid.mk_ (gDp base base g c i ks1 x x.1.expr wr.drew ng nc xs (hI.below hBd).row hx (hI.below hBd).nms HXL.out (HSZ.out i _ hs) (hI.below hBd).ety)
    have HPOST:Hid (∀(e:Ending) (Y:World),_->e=.returned (.int .i64 (kI x.1.expr (xs.map iP)))/\(Y.cell? ⟨B,0,none⟩=some (.slice (some ⟨g,0,none⟩) ks.length c)/\Y.cell? ⟨B,1,none⟩=some (.slice (some ⟨ng,0,none⟩) xs.length nc)/\Y.cell? ⟨g,i * 10+1,none⟩=some (.string x.1.expr))/\RdQ base w B g c ng nc xs ss sp ks.length Y (kI x.1.expr (xs.map iP)) (i+1)):=fun e Y hp=>by
     obtain⟨r1,r2,r3⟩:=hI.post HB.out hx hs hx hBd e Y hp;rw[hl1] at r2 r3;exact⟨r1,r2,r3⟩
    have hcs:=hI.cells;have hce:=hI.expr hx;rw[hl1] at hcs HRD;rw[hl1] at HPOST;obtain⟨f1,hf1⟩:∃f1,f1=kI x.1.expr (xs.map iP):=⟨_,rfl⟩;rw[<-hf1] at HRD HPOST;obtain⟨ex,hex⟩:∃ex,ex=x.1.expr:=⟨_,rfl⟩;rw[<-hex] at HRD HPOST hce;clear hI hx hs hf1 hex hBd hgr hcb;obtain⟨k0,k1⟩:=hcs;(go_wp2_with fail);refine wp_region_held_drew (S:=fun X=>X.cell? ⟨B,0,none⟩=some (.slice (some ⟨g,0,none⟩) ks.length c)/\X.cell? ⟨B,1,none⟩=some (.slice (some ⟨ng,0,none⟩) xs.length nc)/\X.cell? ⟨g,i * 10+1,none⟩=some (.string ex)) hmx ⟨k0,k1,hce⟩ (fun hS=>?_);refine gA 0 (some 31) hS ?_;refine gA 1 (some 32) hS ?_;refine gA 2 (some 33) hS ?_;refine gA 3 (some 34) hS ?_ (hy:=by intro w hSw;obtain⟨k0,k1,k2⟩:=hSw;go_simp;with_reducible rfl);refine gA 4 (some 35) hS ?_;refine gA 5 (some 36) hS ?_;refine gA 6 (some 37) hS ?_;refine gA 7 (some 38) hS ?_;refine gA 8 (some 39) hS ?_;refine gA 9 (some 40) hS ?_ (hy:=by intro w hSw;obtain⟨k0,k1,k2⟩:=hSw;go_simp;with_reducible rfl);refine gA 10 (some 41) hS ?_;refine gA 11 (some 42) hS ?_;refine gA 12 (some 43) hS ?_;refine gA 13 (some 44) hS ?_;refine gA 14 (some 45) hS ?_ (hy:=by intro w hSw;obtain⟨k0,k1,k2⟩:=hSw;go_simp;with_reducible rfl);refine gA 15 (some 46) hS ?_;refine gA 16 (some 47) hS ?_;refine gA 17 (some 48) hS ?_;refine gA 18 (some 49) hS ?_ (hy:=by intro w hSw;obtain⟨k0,k1,k2⟩:=hSw;go_simp;with_reducible rfl);refine gT 19 kr rfl (fun K hK=>?_);rw[if_pos (by rfl)];go_simp;refine HRD.out.mono ?_;rintro e Y hpost;obtain⟨rfl,hSY,hpost⟩:=HPOST.out e Y hpost;have HQ:=Hid.mk_ hpost;clear hpost;refine hK.out _ _ hSY (fun _=>?_);clear hK K
    try simp only[gQ]
    refine gA 20 (some 5) hSY ?_;refine wpAnyH_done kr ?_ _;go_wp2
    go_roundg (ks.length - i)
    case measure=>omega
    case rel=>exact⟨i+1,_,oo,oo,rfl,by first | rfl | go_num,oo,HQ.out⟩
   ·have hf0:(f==0)=false:=by simpa using hf
    have HE:Hid (kL ss (xs.map iP)=f/\w.grownBy wr (some g)):=⟨hfe,hgr⟩;clear hfe hgr;go_wp2;go_ret;exact⟨by rw[HE.out.1];rfl,HE.out.2,fun e=>absurd (HE.out.1.symm.trans e) hf⟩
  ·have hie:i=ks.length:=by omega
   subst hie;have hdi:decide ((ks.length:Int)<(ks.length:Int))=false:=by simp
   have HE:Hid (kL ss (xs.map iP)=f/\w.grownBy wr (some g)/\(kL ss (xs.map iP)=0->∃ks', ks'.length=ks.length/\RdI base w B g c ng nc xs ss sp wr ks' ks.length)):=by
    rcases hq with ⟨rfl,ks1,hl1,hI⟩ | ⟨hf,hfe⟩
    ·exact⟨HFZ.out wr ks1 hI,hgr,fun _=>⟨ks1,hl1,hI⟩⟩
    ·exact⟨hfe,hgr,fun e=>absurd (hfe.symm.trans e) hf⟩
   clear hq hgr;go_wp2;go_ret;exact⟨by rw[HE.out.1];rfl,HE.out.2⟩
theorem k140{p:Prop}(h:p:=by
  simp only[Bool.and_eq_true,decide_eq_true_eq] at hc;exact⟨by dsimp only;omega,by dsimp only;omega⟩
  ):p:=h
theorem gPu (s:ByteArray)(pos:Nat)(h:pos<s.size)(ha:¬(s[pos]'h).toNat<128):128<=(Utf8.decode s pos).1/\(Utf8.decode s pos).1<=2147483647:=by
 have e:s.get! (pos+0)=s[pos]'h:=by
  show s.get! pos=_
  simp[ByteArray.get!,getElem!_pos,h]
  rfl
 have hb:(s[pos]'h).toNat<256:=UInt8.toNat_lt _
 unfold Utf8.decode
 simp only[e]
 rw[if_neg ha]
 have hr:128<=Utf8.runeError/\Utf8.runeError<=2147483647:=by decide
 split
 ·split
  ·exact⟨by assumption,by dsimp only;omega⟩
  ·exact hr
 ·split
  ·split
   ·rename_i hc
    exact k140
   ·exact hr
  ·split
   ·split
    ·rename_i hc
     exact k140
    ·exact hr
   ·exact hr
theorem gKl {P:Program}(w:World)(s:ByteArray)(pos:Nat)(ty:TypeId)(h:pos<s.size) :
  (Instr.next (.pointer (some ⟨w.heap.size,0,none⟩)) true ty).run P (w.iter s pos) =
   .ok (.tuple #[.bool true,.int .i64 pos,.int .i32 ((Utf8.decode s pos).1:Int)]) (w.iter s (pos+(Utf8.decode s pos).2)):=by
 simp only[Instr.next,getObj,setObj,Sem.run_bind,Sem.run,World.iter_heap,Result.andThen,h,if_true,World.iter_set]
 simp[goInt]
theorem k109{p:Prop}(h:p:=by
  rw[h2];go_enter Tryz.func121,Tryz.ntmps121;go_wp2;go_ret;exact⟨by first | rfl | simp[h1],rfl⟩
  ):p:=h
theorem gOg (c:Int)(w:World):Calls Tryz.prog 121 #[.int .i32 c] w fun e w' => e=.returned (.bool (!pL c))/\w' = w:=by
 by_cases h1:c<97
 ·have h2:pL c=false:=by unfold pL;simp;omega
  exact k109
 ·have hd:decide (c<97)=false:=by simpa using h1
  have h2:(!pL c)=decide (122<c):=by
   (have h97:decide (97<=c)=true:=by simp;omega);unfold pL;rw[h97,Bool.true_and,<-decide_not,decide_eq_decide];omega
  exact k109
def gSt (s:ByteArray)(i:Nat):Prop:=∀(k:Nat) (h:k<s.size),k<i->gH s[k]=true
theorem gSs (s:ByteArray)(h:gSt s s.size):s.toList.all gH=true:=by
 rw[List.all_eq_true]
 intro c hc
 obtain⟨k,hk⟩:=List.getElem?_of_mem hc
 have hlt:k<s.size:=by
  have:=(zzc.1 hk).1
  rw[kZ] at this;exact this
 rw[pU s k hlt] at hk
 cases hk
 exact h k hlt hlt
theorem gOu (c:UInt8):pL (c.toNat:Int)=gH c:=by
 unfold pL gH
 have h1:decide ((97:Int)<=(c.toNat:Int))=decide (97<=c.toNat):=by simp only[decide_eq_decide];omega
 have h2:decide ((c.toNat:Int)<=122)=decide (c.toNat<=122):=by simp only[decide_eq_decide];omega
 rw[h1,h2]
theorem gUn (s:ByteArray)(k:Nat)(h:k<s.size)(hl:gH s[k]=false):s.toList.all gH=false:=by
 rw[List.all_eq_false]
 exact⟨s[k],zzj (pU s k h),by rw[hl];exact Bool.false_ne_true⟩
theorem k106{p:Prop}(h:p:=by
  (go_wp2_with fail);refine HC.mono ?_;rintro e W ⟨rfl,rfl⟩;rw[hle];go_wp2;go_ret;exact⟨(pos:Int),rfl,by rw[HF.out];simp,HB.out _⟩
  ):p:=h
theorem gLx (s:ByteArray)(hs:s.size<=9223372036854775807)(w:World):Calls Tryz.prog 165 #[.string s,.func (.func 121) #[] #[],.bool true] w fun e w' => ∃i:Int,e=.returned (.int .i64 i)/\decide (0<=i)=(!s.toList.all gH)/\Below w.heap.size w w' := by
 have HB:Hid (∀pos,Below w.heap.size w (w.iter s pos)):=fun pos=>(zzd _ w).alloc (zzb _) _
 have HO:Hid (∀(c:Int) (W:World),Calls Tryz.prog 121 #[.int .i32 c] W fun e w' => e=.returned (.bool (!pL c))/\w' = W):=fun c W=>gOg c W
 have hrg:=run_range_string (P:=Tryz.prog) w 9 s Tryz.underlying9
 have hsi:(s.size:Int)<=9223372036854775807:=by omega
 clear hs
 go_enter Tryz.func165,Tryz.ntmps165
 go_wp2
 go_loopg [7] (s.size+1) (fun gk v wr=>∃pos:Nat,pos<=s.size/\s.size<pos+gk/\wr=w.iter s pos/\gSt s pos)
 case atStart=>exact⟨0,zzn _,oo,rfl,fun k h hk=>absurd hk (Nat.not_lt_zero _)⟩
 case round=>
  obtain⟨pos,hpos,hgk,rfl,hT⟩:=hrel;clear hrg
  by_cases hlt:pos<s.size
  ·by_cases hasc:(s[pos]'hlt).toNat<128
   ·have hnx:∀ty,(Instr.next (.pointer (some ⟨w.heap.size,0,none⟩)) true ty).run Tryz.prog (w.iter s pos)=_:=fun ty=>run_next_ascii w s pos ty hlt hasc
    have HC:=HO.out ((s[pos]'hlt).toNat:Int) (w.iter s (pos+1));have hle:=gOu (s[pos]'hlt)
    by_cases hl:gH (s[pos]'hlt)=true
    ·rw[hl] at hle
     have HT:Hid (gSt s (pos+1)):=fun k h hk=>by
      by_cases e:k=pos
      ·subst e;exact hl
      ·exact hT k h oo
     clear hT hl;(go_wp2_with fail);refine HC.mono ?_;rintro e W ⟨rfl,rfl⟩;rw[hle];go_wp2
     go_roundg (s.size - pos)
     case measure=>omega
     case rel=>exact⟨pos+1,oo,oo,rfl,HT.out⟩
    ·have hl' : gH (s[pos]'hlt)=false:=by simpa using hl
     rw[hl'] at hle;have HF:Hid (s.toList.all gH=false):=gUn s pos hlt hl';clear hT hl hl';exact k106
   ·obtain⟨d1,d2⟩:=gPu s pos hlt hasc
    (have hnx:∀ty,(Instr.next (.pointer (some ⟨w.heap.size,0,none⟩)) true ty).run Tryz.prog (w.iter s pos)=_:=fun ty=>gKl w s pos ty hlt);have HC:=HO.out ((Utf8.decode s pos).1:Int) (w.iter s (pos+(Utf8.decode s pos).2));(have hle:pL ((Utf8.decode s pos).1:Int)=false:=by unfold pL;simp;omega);have HF:Hid (s.toList.all gH=false):=gUn s pos hlt (by unfold gH;simp;omega);clear hT d1 d2;exact k106
  ·obtain rfl:pos=s.size:=by omega
   (have hnx:∀ty,(Instr.next (.pointer (some ⟨w.heap.size,0,none⟩)) true ty).run Tryz.prog (w.iter s s.size)=_:=fun ty=>run_next_end w s s.size ty hlt);have HF:Hid (s.toList.all gH=true):=gSs s hT;clear hT;go_wp2;go_ret;exact⟨-1,rfl,by rw[HF.out];rfl,HB.out _⟩
theorem gKh (s:ByteArray)(hs:s.size<=9223372036854775807)(w:World):Calls Tryz.prog 153 #[.string s,.func (.func 121) #[] #[]] w fun e w' => ∃i:Int,e=.returned (.int .i64 i)/\decide (0<=i)=(!s.toList.all gH)/\Below w.heap.size w w' := by
 have HF:=gLx s hs w
 clear hs
 go_enter Tryz.func153,Tryz.ntmps153
 go_wp2_with fail
 refine HF.mono ?_
 rintro e W ⟨i,rfl,h1,h2⟩
 have HE:Hid (decide (0<=i)=(!s.toList.all gH)/\Below w.heap.size w W):=⟨h1,h2⟩
 clear h1 h2 HF
 go_wp2
 go_ret
 exact⟨i,rfl,HE.out⟩
theorem gEk (s:ByteArray)(hs:s.size<=9223372036854775807)(w:World):Calls Tryz.prog 122 #[.string s,.func (.func 121) #[] #[]] w fun e w' => e=.returned (.bool (!s.toList.all gH))/\Below w.heap.size w w' := by
 have HF:=gKh s hs w
 clear hs
 go_enter Tryz.func122,Tryz.ntmps122
 go_wp2_with fail
 refine HF.mono ?_
 rintro e W ⟨i,rfl,h1,h2⟩
 have HE:Hid (decide (0<=i)=(!s.toList.all gH)/\Below w.heap.size w W):=⟨h1,h2⟩
 clear h1 h2 HF
 go_wp2
 go_ret
 exact⟨by rw[<-HE.out.1];rfl,HE.out.2⟩
theorem gNd (s:ByteArray)(hs:s.size<=9223372036854775807)(w:World):Calls Tryz.prog 90 #[.string s] w fun e w' => e=.returned (.bool (jJ s))/\Below w.heap.size w w' := by
 have HF:=gEk s hs w
 have HR:Hid (Below w.heap.size w w):=zzd _ _
 by_cases h0:s.toList=[]
 ·have HL:Hid (jJ s=false):=by
   show jJ s=false
   unfold jJ;rw[h0]
   rfl
  clear hs HF;go_enter Tryz.func90,Tryz.ntmps90;go_wp2;go_ret;exact⟨by rw[HL.out];rfl,HR.out⟩
 ·have HL:Hid (jJ s=s.toList.all gH):=by
   show jJ s=s.toList.all gH
   unfold jJ;rw[List.isEmpty_eq_false_iff.2 h0,Bool.not_false,Bool.and_true]
  clear hs;go_enter Tryz.func90,Tryz.ntmps90;(go_wp2_with fail);refine HF.mono ?_;rintro e W ⟨rfl,h2⟩;have HE:Hid (Below w.heap.size w W):=h2;clear h2 HF;go_wp2;go_ret;exact⟨by rw[HL.out];first | rfl | (simp[h0]),HE.out⟩
end Go.Proofs.YtjkebndkeamijaaGreatDoor
