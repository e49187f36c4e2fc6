/-
  PROVED HERE: what the texts DFReadK, DFRPars7, DFIsNm, DFRightN say.
-/
import Derived.Test.YtjkebndkeamijaaGreatDoorCF25
import Derived.Laws.RangeString
set_option maxRecDepth 100000
set_option maxHeartbeats 1600000
namespace Go.Proofs.YtjkebndkeamijaaGreatDoor
open Go.RowKit
theorem row_setb {w:World}{base:Nat}{e:TypeId}{sz g n cap:Nat}{xs:List Value}(h:w.ownsRow base e sz (.slice (some ⟨g,0,none⟩) n cap) n xs)(k:Nat)(u:Value):(w.setCell ⟨g,k,none⟩ u).ownsRow base e sz (.slice (some ⟨g,0,none⟩) n cap) n (xs.set k u):=by
 exact k39
def readE (s:ByteArray)(gs:List Grp):Int:=if outE s≠0 then outE s else chk 200 (outTree s) gs
theorem set_three (l r:List Value)(a b c:Value)(x y z u v w p:Value)(hl:l=[x,y,z,u,v,w,p]):∀(d e f:Value),((((l++[d,e,f])++r).set 7 a).set 8 b).set 9 c=(l++[a,b,c])++r:=by
 intro d e f
 subst hl
 rfl
theorem flatK_tree:∀(ks:List KindD) (i:Nat) (x:KindD) (r:Raw),ks[i]? = some x->(((flatK ks).set (i * 10+7) (.int .i64 r.1)).set (i * 10+7+1) (.string r.2.1)).set (i * 10+7+2) (.slice r.2.2.1 r.2.2.2.1 r.2.2.2.2)=flatK (ks.set i (x.1,r.1,r.2.1,r.2.2.1,r.2.2.2.1,r.2.2.2.2)):=by
 intro ks
 induction ks with
 | nil=>intro i x r h;simp at h
 | cons y q ih=>
  intro i x r h;cases i with
  | zero=>
   simp only[List.getElem?_cons_zero,Option.some.injEq] at h;subst h;rw[List.set_cons_zero,flatK,flatK];exact set_three (specC y.1) (flatK q) _ _ _ _ _ _ _ _ _ _ rfl _ _ _
  | succ i=>
   rw[List.getElem?_cons_succ] at h;rw[List.set_cons_succ,flatK,flatK,<-ih i x r h]
   have e:∀(L:List Value) (k:Nat) (v:Value),(kindC y++L).set ((i+1) * 10+7+k) v=kindC y++L.set (i * 10+7+k) v:=fun L k v=>by
    rw[List.set_append_right _ _ (by rw[kindC_length];omega),kindC_length]
    congr 2
    omega
   have e0:=e (flatK q) 0 (.int .i64 r.1);rw[Nat.add_zero,Nat.add_zero] at e0;rw[e0,e _ 1,e _ 2]
theorem Nms.grown {base:Nat}{W W' : World}{v:Value}{xs:List GrpD}{g:Nat}{c:Array Value}{f:Nat×Nat}(h:Nms base W v xs)(hg:W.grownBy W' (some g))(hk:W.heap[g]? = some (.cells c 81 f)):Nms base W' v xs:=by
 have hne:∀(k:Nat) c' t f', W.heap[k]? = some (.cells c' t f')->t≠81->some k≠some g:=fun k c' t f' hk' ht e=>by
  (injection e with e);subst e;rw[hk] at hk';(injection hk' with hk');(injection hk' with _ h2 _);exact ht h2.symm
 refine⟨owns_same h.row fun k hk' => ?_,fun x hx=>⟨owns_same (h.ok x hx).1 fun k hk' => ?_,(h.ok x hx).2⟩⟩
 ·obtain⟨hl,cur,hcur⟩:=owns_lt h.row hk'
  exact hg.block k hl (hne k cur _ _ hcur (by decide))
 ·obtain⟨hl,cur,hcur⟩:=owns_lt (h.ok x hx).1 hk'
  exact hg.block k hl (hne k cur _ _ hcur (by decide))
theorem grown_below {w w' : World}{g:Nat}(h:Below w.heap.size w w'):w.grownBy w' (some g):=⟨h.os,h.tape,h.output,h.size,fun k hk _=>h.block k hk⟩
theorem grown_trans {w w' w'' : World}{g:Option Nat}(h:w.grownBy w' g)(h' : w'.grownBy w'' g):w.grownBy w'' g:=⟨h'.os.trans h.os,h'.tape.trans h.tape,h'.output.trans h.output,Nat.le_trans h.size h'.size,fun k hk hne=>(h'.block k (zzl hk h.size) hne).trans (h.block k hk hne)⟩
theorem grown_set (w:World)(g o:Nat)(u:Value):w.grownBy (w.setCell ⟨g,o,none⟩ u) (some g):=⟨rfl,rfl,rfl,Nat.le_of_eq (by simp),fun k _ hne=>zzh w _ u k (fun e=>hne (by rw[e]))⟩
theorem kread_calls (base base' g c i:Nat)(ks:List KindD)(x:KindD)(s:ByteArray)(w:World)(ng nc:Nat)(xs:List GrpD)(hown:w.ownsRow base 81 10 (.slice (some ⟨g,0,none⟩) ks.length c) ks.length (flatK ks))(hx:ks[i]? = some x)(hN:Nms base' w (.slice (some ⟨ng,0,none⟩) xs.length nc) xs)(hxl:xs.length<=1000)(hs:s.size<=9223372036854775807)(hE:ETy w) :
  Calls Tryz.prog 92 #[.pointer (some ⟨g,i * 10,none⟩),.string s,.slice (some ⟨ng,0,none⟩) xs.length nc] w fun e w' => e=.returned (.int .i64 (readE s (xs.map plainG)))/\w.grownBy w' (some g)/\∃ks' : List KindD,ks'.map (·.1)=ks.map (·.1)/\w'.ownsRow base 81 10 (.slice (some ⟨g,0,none⟩) ks.length c) ks.length (flatK ks')/\(readE s (xs.map plainG)=0->∃r:Raw,ks' = ks.set i (x.1,r.1,r.2.1,r.2.2.1,r.2.2.2.1,r.2.2.2.2)/\ExA (fun b=>w.heap.size<=b) w' 200 (outTree s) (rawV r)):=by
 have hP:=parsea_calls s hs w hE
 have hg:=(owns_lt hown (g:=g) rfl)
 obtain⟨f,hf⟩:∃f,f=outE s:=⟨_,rfl⟩
 by_cases h0:f≠0
 ·have HP:Hid (Calls Tryz.prog 124 #[.string s] w fun e w' => Below w.heap.size w w' /\ ∃(k:Int) (nm:ByteArray) (a:Option Addr) (ln cp:Nat) (pn:Int),e=.returned (.tuple #[.agg #[.int .i64 k,.string nm,.slice a ln cp],.int .i64 pn,.int .i64 f])):=by
   refine hP.mono ?_;rintro e w' ⟨h1,⟨k,nm,a,ln,cp⟩,_,rfl⟩;exact⟨h1,k,nm,a,ln,cp,_,by rw[hf];rfl⟩
  have e0:(f==0)=false:=by simpa using h0
  have e1:(f != 0)=true:=by simp[bne,e0]
  have HR:Hid (readE s (xs.map plainG)=f):=by
   show readE s (xs.map plainG)=f
   unfold readE;rw[<-hf,if_pos h0]
  (have HOW:Hid (∀X,Below w.heap.size w X->X.ownsRow base 81 10 (.slice (some ⟨g,0,none⟩) ks.length c) ks.length (flatK ks)):=fun X hX=>owns_same hown fun k hk=>hX.block k (owns_lt hown hk).1);clear hP hg hown hN hx hs hE hf;go_enter Tryz.func92,Tryz.ntmps92;(go_wp2_with fail);refine HP.out.mono ?_;rintro e W ⟨hB,k,nm,a,ln,cp,pn,rfl⟩;have HB:Hid (w.grownBy (W.alloc (.cells #[.int .i64 k,.string nm,.slice a ln cp] 69)) (some g)/\(W.alloc (.cells #[.int .i64 k,.string nm,.slice a ln cp] 69)).ownsRow base 81 10 (.slice (some ⟨g,0,none⟩) ks.length c) ks.length (flatK ks)):=⟨grown_below (hB.alloc hB.size _),HOW.out _ (hB.alloc hB.size _)⟩;clear hB HP;go_wp2;go_ret;exact⟨by rw[HR.out];rfl,HB.out.1,ks,rfl,HB.out.2,fun h=>absurd (HR.out.symm.trans h) h0⟩
 ·have h0:f=0:=Classical.not_not.1 h0
  subst h0
  have HP:Hid (Calls Tryz.prog 124 #[.string s] w fun e w' => Below w.heap.size w w' /\ ∃(k:Int) (nm:ByteArray) (a:Option Addr) (ln cp:Nat) (pn:Int),ExA (fun b=>w.heap.size<=b) w' 200 (outTree s) (rawV (k,nm,a,ln,cp))/\e=.returned (.tuple #[.agg #[.int .i64 k,.string nm,.slice a ln cp],.int .i64 pn,.int .i64 0])):=by
   refine hP.mono ?_;rintro e w' ⟨h1,⟨k,nm,a,ln,cp⟩,h2,rfl⟩;exact⟨h1,k,nm,a,ln,cp,_,h2,by rw[<-hf];rfl⟩
  have HR:Hid (readE s (xs.map plainG)=chk 200 (outTree s) (xs.map plainG)):=by
   show readE s (xs.map plainG)=chk 200 (outTree s) (xs.map plainG)
   unfold readE;rw[<-hf,if_neg (by simp)]
  have HMAIN:Hid (∀(W:World) (k:Int) (nm:ByteArray) (a:Option Addr) (ln cp:Nat),Below w.heap.size w W->ExA (fun b=>w.heap.size<=b) W 200 (outTree s) (rawV (k,nm,a,ln,cp))->∀V,V=W.alloc (.cells #[.int .i64 k,.string nm,.slice a ln cp] 69)->(∃v0,V.cell? ⟨g,i * 10+7,none⟩=some v0)/\(∃v1,(V.setCell ⟨g,i * 10+7,none⟩ (.int .i64 k)).cell? ⟨g,i * 10+7+1,none⟩=some v1)/\(∃v2,((V.setCell ⟨g,i * 10+7,none⟩ (.int .i64 k)).setCell ⟨g,i * 10+7+1,none⟩ (.string nm)).cell? ⟨g,i * 10+7+2,none⟩=some v2)/\(V.frozen? ⟨g,i * 10+7,none⟩=false/\(V.setCell ⟨g,i * 10+7,none⟩ (.int .i64 k)).frozen? ⟨g,i * 10+7+1,none⟩=false/\((V.setCell ⟨g,i * 10+7,none⟩ (.int .i64 k)).setCell ⟨g,i * 10+7+1,none⟩ (.string nm)).frozen? ⟨g,i * 10+7+2,none⟩=false) ∧
    ∀Z,Z=(((V.setCell ⟨g,i * 10+7,none⟩ (.int .i64 k)).setCell ⟨g,i * 10+7+1,none⟩ (.string nm)).setCell ⟨g,i * 10+7+2,none⟩ (.slice a ln cp))->Z.cell? ⟨W.heap.size,0,none⟩=some (.int .i64 k)/\Z.cell? ⟨W.heap.size,1,none⟩=some (.string nm)/\Z.cell? ⟨W.heap.size,2,none⟩=some (.slice a ln cp)/\Calls Tryz.prog 117 #[.agg #[.int .i64 k,.string nm,.slice a ln cp],.slice (some ⟨ng,0,none⟩) xs.length nc] Z fun e w' => e=.returned (.int .i64 (chk 200 (outTree s) (xs.map plainG)))/\w.grownBy w' (some g)/\∃r:Raw,w'.ownsRow base 81 10 (.slice (some ⟨g,0,none⟩) ks.length c) ks.length (flatK (ks.set i (x.1,r.1,r.2.1,r.2.2.1,r.2.2.2.1,r.2.2.2.2)))/\ExA (fun b=>w.heap.size<=b) w' 200 (outTree s) (rawV r)):=by
   intro W k nm a ln cp hB hX V hV;(have hBV:Below w.heap.size w V:=by rw[hV];exact hB.alloc hB.size _);(have hOV:V.ownsRow base 81 10 (.slice (some ⟨g,0,none⟩) ks.length c) ks.length (flatK ks):=owns_same hown fun k hk=>hBV.block k (owns_lt hown hk).1);have hil:i<ks.length:=(zzc.1 hx).1
   have cell:∀(Y:World) (L:List Value) (q:Nat),Y.ownsRow base 81 10 (.slice (some ⟨g,0,none⟩) ks.length c) ks.length L->q<ks.length * 10->∃v,Y.cell? ⟨g,q,none⟩=some v:=fun Y L q hY hq=>by
    obtain⟨g', cap', e,hc⟩:=owns_cell hY oo;(injection e with e1);(injection e1 with e1);(injection e1 with e1);subst e1;have hl:=hY.1;exact⟨_,hc q _ (zze (by rw[hl];exact hq))⟩
   have froz:∀(Y:World) (L:List Value) (q:Nat),Y.ownsRow base 81 10 (.slice (some ⟨g,0,none⟩) ks.length c) ks.length L->Y.frozen? ⟨g,q,none⟩=false:=fun Y L q hY=>by
    obtain⟨_,cur,hcur⟩:=owns_lt hY (g:=g) rfl;simp[World.frozen?,hcur]
   have o1:=row_setb hOV (i * 10+7) (.int .i64 k);have o2:=row_setb o1 (i * 10+7+1) (.string nm);have o3:=row_setb o2 (i * 10+7+2) (.slice a ln cp);rw[flatK_tree ks i x (k,nm,a,ln,cp) hx] at o3;refine⟨cell _ _ _ hOV oo,cell _ _ _ o1 oo,cell _ _ _ o2 oo,⟨froz _ _ _ hOV,froz _ _ _ o1,froz _ _ _ o2⟩,fun Z hZ=>?_⟩;rw[<-hZ] at o3
   have gVZ:V.grownBy Z (some g):=by
    rw[hZ];exact grown_trans (grown_trans (grown_set _ _ _ _) (grown_set _ _ _ _)) (grown_set _ _ _ _)
   have gwZ:w.grownBy Z (some g):=grown_trans (grown_below hBV) gVZ;(have mV:V.heap[W.heap.size]? = some (.cells #[.int .i64 k,.string nm,.slice a ln cp] 69 (0,0)):=by rw[hV];exact World.alloc_heap_new W _);have hgW:g<W.heap.size:=zzl hg.1 hB.size;have mZ:Z.heap[W.heap.size]? = some (.cells #[.int .i64 k,.string nm,.slice a ln cp] 69 (0,0)):=(gVZ.block _ (zza.1 mV).1 (by intro e;injection e with e;omega)).trans mV;have hc:=fun j=>cell_of_row Z W.heap.size j _ _ _ mZ
   have hXZ:ExA (fun b=>w.heap.size<=b) Z 200 (outTree s) (rawV (k,nm,a,ln,cp)):=by
    have hXV:ExA (fun b=>w.heap.size<=b) V 200 (outTree s) (rawV (k,nm,a,ln,cp)):=ExA.kept (by rw[hV];simp) (fun b hb hA=>⟨hA,by rw[hV];exact zzf W _ _ hb⟩) _ _ _ hX;exact ExA.kept gVZ.size (fun b hb hA=>⟨hA,gVZ.block b hb (by intro e;injection e with e;omega)⟩) _ _ _ hXV
   obtain⟨_,cur,hcur⟩:=owns_lt hOV (g:=g) rfl
   have hNZ:Nms base' Z (.slice (some ⟨ng,0,none⟩) xs.length nc) xs:=by
    have hNV:Nms base' V (.slice (some ⟨ng,0,none⟩) xs.length nc) xs:=hN.below hBV;exact hNV.grown gVZ hcur
   refine⟨hc 0,hc 1,hc 2,?_⟩;refine(rcheck_calls 200 (outTree s) _ (some ⟨ng,0,none⟩) xs.length nc (xs.map plainG) Z (ExA.ex _ _ _ hXZ) (out_named s) (hNZ.groups rfl oo)).mono ?_;rintro e w' ⟨rfl,hB'⟩;refine⟨rfl,grown_trans gwZ (grown_below hB'),(k,nm,a,ln,cp),owns_same o3 fun q hq=>hB'.block q (owns_lt o3 hq).1,?_⟩;exact ExA.kept hB'.size (fun b hb hA=>⟨hA,hB'.block b hb⟩) _ _ _ hXZ
  have HSET:Hid (∀r:Raw,(ks.set i (x.1,r.1,r.2.1,r.2.2.1,r.2.2.2.1,r.2.2.2.2)).map (·.1)=ks.map (·.1)):=fun r=>by
   rw[List.map_set];(refine List.ext_getElem? fun q=>?_);rw[List.getElem?_set]
   split
   ·rename_i e'
    subst e';rw[List.length_map,if_pos (zzc.1 hx).1,List.getElem?_map,hx]
    rfl
   ·rfl
  clear hP hown hN hx hs hE hf hg;have hf0:((0:Int) != 0)=false:=rfl;go_enter Tryz.func92,Tryz.ntmps92;(go_wp2_with fail);refine HP.out.mono ?_;rintro e W ⟨hB,k,nm,a,ln,cp,pn,hX,rfl⟩;obtain⟨⟨v0,hv0⟩,⟨v1,hv1⟩,⟨v2,hv2⟩,⟨f0,f1,f2⟩,hZ⟩:=HMAIN.out W k nm a ln cp hB hX _ rfl;obtain⟨z0,z1,z2,HC⟩:=hZ _ rfl;clear hB hX HP HMAIN hZ;(go_wp2_with fail);refine HC.mono ?_;rintro e W3 ⟨rfl,h1,h2⟩;have HE:Hid (w.grownBy W3 (some g)/\∃r:Raw,W3.ownsRow base 81 10 (.slice (some ⟨g,0,none⟩) ks.length c) ks.length (flatK (ks.set i (x.1,r.1,r.2.1,r.2.2.1,r.2.2.2.1,r.2.2.2.2)))/\ExA (fun b=>w.heap.size<=b) W3 200 (outTree s) (rawV r)):=⟨h1,h2⟩;clear h1 h2 HC;go_wp2;go_ret;obtain⟨q1,r,q2,q3⟩:=HE.out;exact⟨by rw[HR.out];rfl,q1,_,HSET.out r,q2,fun _=>⟨r,rfl,q3⟩⟩
theorem out_cnt (s:ByteArray):cnt 200 (outTree s)<=1152921504606846976:=by
 have hc:∀t,s.size<=200->readT (bts s)=some t->cnt 200 t<=1000:=fun t hs hr=>by
  by_cases hk:kindT t≠0
  ·have:=(read_bound hr hk 200).2
   rw[bts_length] at this;omega
  ·unfold readT at hr
   split at hr
   ·cases hr;decide
   ·split at hr
    ·rename_i t2 ha
     cases hr
     have:=altN_bound _ _ _ _ ha 200
     rw[bts_length,List.length_nil] at this;omega
    ·cases hr
 have he:cnt 200 emptyT<=1152921504606846976:=by decide
 unfold outTree outT
 split
 ·exact he
 ·split
  ·exact he
  ·rename_i t hr
   split
   ·have:=hc t oo hr
    show cnt 200 t<=1152921504606846976
    omega
   ·exact he
theorem k35{p:Prop}(h:p:=by
  (go_wp2_with (refine wpList_store_row rfl 69 _ _ rfl w.heap.size #[.int .i64 k,.string nm,.slice a ln cp] rfl rfl 69 _ HZ.out sizeExpr rfl (ones3 _ _ _ _ _) ?_));refine bodyPost_ret (results_row_tmp rfl _ _ w.heap.size 69 #[.int .i64 k,.string nm,.slice a ln cp] (0,0) _ rfl (setRow_heap _ _ _ _ _ _ HZ.out) Tryz.underlying69 rfl sizeExpr) rfl ?_;exact⟨(HF.out _).1,(k,nm,a,ln,cp),(HF.out _).2,rfl⟩
  ):p:=h
theorem rparse7_calls (s:ByteArray)(hs:s.size<=9223372036854775807)(ga:Option Addr)(gl gc:Nat)(gs:List Grp)(w:World)(hG:Groups w ga gl gs) :
  Calls Tryz.prog 59 #[.string s,.slice ga gl gc] w fun e w' => Below w.heap.size w w' /\ ∃r:Raw,ExA (fun b=>w.heap.size<=b) w' 200 (outTree s) (rawV r)/\e=.returned (.tuple #[rawV r,.int .i64 (readE s gs)]):=by
 obtain⟨V,hV⟩:∃V,V=w.alloc (.cells #[.int .i64 0,.string ⟨#[]⟩,.slice none 0 0] 69):=⟨_,rfl⟩
 have hBV:Below w.heap.size w V:=by rw[hV];exact(zzd _ w).alloc (zzb _) _
 have hsV:V.heap.size=w.heap.size+1:=by rw[hV,World.size_alloc]
 have hmV:V.heap[w.heap.size]? = some (.cells #[.int .i64 0,.string ⟨#[]⟩,.slice none 0 0] 69 (0,0)):=by rw[hV];exact World.alloc_heap_new w _
 have HP:=rparse_calls s hs V
 have HALL:Hid (∀(X1:World) (k:Int) (nm:ByteArray) (a:Option Addr) (ln cp:Nat),Below V.heap.size V X1->ExA (fun b=>V.heap.size<=b) X1 200 (outTree s) (rawV (k,nm,a,ln,cp))->∀X2,X2=X1.alloc (.cells #[.int .i64 k,.string nm,.slice a ln cp] 69) →
   (∀X,Below X2.heap.size X2 X->X.heap[w.heap.size]? = some (.cells #[.int .i64 0,.string ⟨#[]⟩,.slice none 0 0] 69 (0,0))/\(X.cell? ⟨X1.heap.size,0,none⟩=some (.int .i64 k)/\X.cell? ⟨X1.heap.size,1,none⟩=some (.string nm)/\X.cell? ⟨X1.heap.size,2,none⟩=some (.slice a ln cp))/\∀cs,Below w.heap.size w (X.setRow w.heap.size cs)/\ExA (fun b=>w.heap.size<=b) (X.setRow w.heap.size cs) 200 (outTree s) (rawV (k,nm,a,ln,cp))) ∧
   Calls Tryz.prog 74 #[.agg #[.int .i64 k,.string nm,.slice a ln cp],.slice ga gl gc] X2 (fun e w' => e=.returned (.int .i64 (chk 200 (outTree s) gs))/\Below X2.heap.size X2 w')):=by
  intro X1 k nm a ln cp hB1 hX1 X2 hX2;have hs1:=hB1.size;(have hB12:Below X1.heap.size X1 X2:=by rw[hX2];exact(zzd _ _).alloc (zzb _) _);(have m2:X2.heap[X1.heap.size]? = some (.cells #[.int .i64 k,.string nm,.slice a ln cp] 69 (0,0)):=by rw[hX2];exact World.alloc_heap_new X1 _);have hl2:=(zza.1 m2).1;have hX2e:ExA (fun b=>V.heap.size<=b) X2 200 (outTree s) (rawV (k,nm,a,ln,cp)):=ExA.kept hB12.size (fun b hb hA=>⟨hA,hB12.block b hb⟩) _ _ _ hX1;have hB2:Below w.heap.size w X2:=hBV.trans ((hB1.trans (hB12.mono hB1.size)).mono hBV.size);refine⟨fun X hX=>⟨?_,?_,fun cs=>⟨?_,?_⟩⟩,?_⟩
  ·have hs2:=hB12.size
   exact(hX.block _ oo).trans ((hB12.block _ oo).trans ((hB1.block _ oo).trans hmV))
  ·have hc:=fun j=>cell_of_row X X1.heap.size j _ _ _ ((hX.block _ hl2).trans m2)
   exact⟨hc 0,hc 1,hc 2⟩
  ·exact below_setRow (hB2.trans (hX.mono hB2.size)) (zzb _) cs
  ·exact ExA.kept (by rw[size_setRow];exact hX.size) (fun b hb hA=>⟨oo,(setRow_other _ _ _ _ oo).trans (hX.block b hb)⟩) _ _ _ hX2e
  ·exact refcheck_calls 200 (outTree s) _ ga gl gc gs X2 (ExA.ex _ _ _ hX2e) (out_named s) (out_cnt s) (hG.below hB2)
 have hre:readE s gs=if outE s≠0 then outE s else chk 200 (outTree s) gs:=rfl
 obtain⟨E,hE⟩:∃E,outE s=E:=⟨_,rfl⟩
 obtain⟨T,hT⟩:∃T,outTree s=T:=⟨_,rfl⟩
 obtain⟨C,hC⟩:∃C,chk 200 T gs=C:=⟨_,rfl⟩
 obtain⟨N,hN⟩:∃N,((outN s:Nat):Int)=N:=⟨_,rfl⟩
 rw[hE,hT,hC] at hre
 rw[hE,hT,hN] at HP
 rw[hT,hC] at HALL
 rw[hT,hre]
 clear hre hE hT hC hN hG hmV hsV
 by_cases h0:E=0
 ·subst h0
  rw[if_neg (by simp)];go_enter Tryz.func59,Tryz.ntmps59;(go_wp2_with fail);rw[<-hV];clear hV;refine HP.mono ?_;rintro e X1 ⟨hB1,⟨k,nm,a,ln,cp⟩,hX1,rfl⟩;obtain⟨hq,hck⟩:=HALL.out X1 k nm a ln cp hB1 hX1 _ rfl;have HQ:=Hid.mk_ hq;obtain⟨_,⟨c0,c1,c2⟩,_⟩:=hq _ (zzd _ _);unfold rawV;dsimp only at *;clear hq HALL hX1 hB1 hBV HP;(go_wp2_with fail);refine hck.mono ?_;rintro e X3 ⟨rfl,hB3⟩;obtain⟨hz,⟨d0,d1,d2⟩,hf⟩:=HQ.out X3 hB3;have HZ:=Hid.mk_ hz;have HF:=Hid.mk_ hf;clear hck HQ c0 c1 c2 hB3 hz hf;exact k35
 ·rw[if_pos h0]
  (have e0:(E==0)=false:=by rw[beq_eq_false_iff_ne];exact h0);go_enter Tryz.func59,Tryz.ntmps59;(go_wp2_with fail);rw[<-hV];clear hV;refine HP.mono ?_;rintro e X1 ⟨hB1,⟨k,nm,a,ln,cp⟩,hX1,rfl⟩;obtain⟨hq,_⟩:=HALL.out X1 k nm a ln cp hB1 hX1 _ rfl;obtain⟨hz,⟨d0,d1,d2⟩,hf⟩:=hq _ (zzd _ _);have HZ:=Hid.mk_ hz;have HF:=Hid.mk_ hf;unfold rawV;dsimp only at *;clear hq HALL hX1 hB1 hBV HP hz hf;exact k35
theorem k115{p:Prop}(h:p:=by
  simp only[Bool.and_eq_true,decide_eq_true_eq] at hc;exact⟨by dsimp only;omega,by dsimp only;omega⟩
  ):p:=h
theorem decode_wide (s:ByteArray)(pos:Nat)(h:pos<s.size)(ha:¬(s[pos]'h).toNat<128):128<=(Utf8.decode s pos).1/\(Utf8.decode s pos).1<=2147483647:=by
 have e:s.get! (pos+0)=s[pos]'h:=by
  show s.get! pos=_
  simp[ByteArray.get!,getElem!_pos,h]
  rfl
 have hb:(s[pos]'h).toNat<256:=UInt8.toNat_lt _
 unfold Utf8.decode
 simp only[e]
 rw[if_neg ha]
 have hr:128<=Utf8.runeError/\Utf8.runeError<=2147483647:=by decide
 split
 ·split
  ·exact⟨by assumption,by dsimp only;omega⟩
  ·exact hr
 ·split
  ·split
   ·rename_i hc
    exact k115
   ·exact hr
  ·split
   ·split
    ·rename_i hc
     exact k115
    ·exact hr
   ·exact hr
theorem run_next_any {P:Program}(w:World)(s:ByteArray)(pos:Nat)(ty:TypeId)(h:pos<s.size) :
  (Instr.next (.pointer (some ⟨w.heap.size,0,none⟩)) true ty).run P (w.iter s pos) =
   .ok (.tuple #[.bool true,.int .i64 pos,.int .i32 ((Utf8.decode s pos).1:Int)]) (w.iter s (pos+(Utf8.decode s pos).2)):=by
 simp only[Instr.next,getObj,setObj,Sem.run_bind,Sem.run,World.iter_heap,Result.andThen,h,if_true,World.iter_set]
 simp[goInt]
theorem k90{p:Prop}(h:p:=by
  rw[h2];go_enter Tryz.func121,Tryz.ntmps121;go_wp2;go_ret;exact⟨by first | rfl | simp[h1],rfl⟩
  ):p:=h
theorem other_calls (c:Int)(w:World):Calls Tryz.prog 121 #[.int .i32 c] w fun e w' => e=.returned (.bool (!lett c))/\w' = w:=by
 by_cases h1:c<97
 ·have h2:lett c=false:=by unfold lett;simp;omega
  exact k90
 ·have hd:decide (c<97)=false:=by simpa using h1
  have h2:(!lett c)=decide (122<c):=by
   (have h97:decide (97<=c)=true:=by simp;omega);unfold lett;rw[h97,Bool.true_and,<-decide_not,decide_eq_decide];omega
  exact k90
def lettTo (s:ByteArray)(i:Nat):Prop:=∀(k:Nat) (h:k<s.size),k<i->letter s[k]=true
theorem lettTo_all (s:ByteArray)(h:lettTo s s.size):s.toList.all letter=true:=by
 rw[List.all_eq_true]
 intro c hc
 obtain⟨k,hk⟩:=List.getElem?_of_mem hc
 have hlt:k<s.size:=by
  have:=(zzc.1 hk).1
  rw[toList_length] at this;exact this
 rw[toList_at s k hlt] at hk
 cases hk
 exact h k hlt hlt
theorem letter_lett (c:UInt8):lett (c.toNat:Int)=letter c:=by
 unfold lett letter
 have h1:decide ((97:Int)<=(c.toNat:Int))=decide (97<=c.toNat):=by simp only[decide_eq_decide];omega
 have h2:decide ((c.toNat:Int)<=122)=decide (c.toNat<=122):=by simp only[decide_eq_decide];omega
 rw[h1,h2]
theorem not_all (s:ByteArray)(k:Nat)(h:k<s.size)(hl:letter s[k]=false):s.toList.all letter=false:=by
 rw[List.all_eq_false]
 exact⟨s[k],zzj (toList_at s k h),by rw[hl];exact Bool.false_ne_true⟩
theorem k87{p:Prop}(h:p:=by
  (go_wp2_with fail);refine HC.mono ?_;rintro e W ⟨rfl,rfl⟩;rw[hle];go_wp2;go_ret;exact⟨(pos:Int),rfl,by rw[HF.out];simp,HB.out _⟩
  ):p:=h
theorem findex_calls (s:ByteArray)(hs:s.size<=9223372036854775807)(w:World):Calls Tryz.prog 165 #[.string s,.func (.func 121) #[] #[],.bool true] w fun e w' => ∃i:Int,e=.returned (.int .i64 i)/\decide (0<=i)=(!s.toList.all letter)/\Below w.heap.size w w' := by
 have HB:Hid (∀pos,Below w.heap.size w (w.iter s pos)):=fun pos=>(zzd _ w).alloc (zzb _) _
 have HO:Hid (∀(c:Int) (W:World),Calls Tryz.prog 121 #[.int .i32 c] W fun e w' => e=.returned (.bool (!lett c))/\w' = W):=fun c W=>other_calls c W
 have hrg:=run_range_string (P:=Tryz.prog) w 9 s Tryz.underlying9
 have hsi:(s.size:Int)<=9223372036854775807:=by omega
 clear hs
 go_enter Tryz.func165,Tryz.ntmps165
 go_wp2
 go_loopg [7] (s.size+1) (fun gk v wr=>∃pos:Nat,pos<=s.size/\s.size<pos+gk/\wr=w.iter s pos/\lettTo s pos)
 case atStart=>exact⟨0,zzn _,oo,rfl,fun k h hk=>absurd hk (Nat.not_lt_zero _)⟩
 case round=>
  obtain⟨pos,hpos,hgk,rfl,hT⟩:=hrel;clear hrg
  by_cases hlt:pos<s.size
  ·by_cases hasc:(s[pos]'hlt).toNat<128
   ·have hnx:∀ty,(Instr.next (.pointer (some ⟨w.heap.size,0,none⟩)) true ty).run Tryz.prog (w.iter s pos)=_:=fun ty=>run_next_ascii w s pos ty hlt hasc
    have HC:=HO.out ((s[pos]'hlt).toNat:Int) (w.iter s (pos+1));have hle:=letter_lett (s[pos]'hlt)
    by_cases hl:letter (s[pos]'hlt)=true
    ·rw[hl] at hle
     have HT:Hid (lettTo s (pos+1)):=fun k h hk=>by
      by_cases e:k=pos
      ·subst e;exact hl
      ·exact hT k h oo
     clear hT hl;(go_wp2_with fail);refine HC.mono ?_;rintro e W ⟨rfl,rfl⟩;rw[hle];go_wp2
     go_roundg (s.size - pos)
     case measure=>omega
     case rel=>exact⟨pos+1,oo,oo,rfl,HT.out⟩
    ·have hl' : letter (s[pos]'hlt)=false:=by simpa using hl
     rw[hl'] at hle;have HF:Hid (s.toList.all letter=false):=not_all s pos hlt hl';clear hT hl hl';exact k87
   ·obtain⟨d1,d2⟩:=decode_wide s pos hlt hasc
    (have hnx:∀ty,(Instr.next (.pointer (some ⟨w.heap.size,0,none⟩)) true ty).run Tryz.prog (w.iter s pos)=_:=fun ty=>run_next_any w s pos ty hlt);have HC:=HO.out ((Utf8.decode s pos).1:Int) (w.iter s (pos+(Utf8.decode s pos).2));(have hle:lett ((Utf8.decode s pos).1:Int)=false:=by unfold lett;simp;omega);have HF:Hid (s.toList.all letter=false):=not_all s pos hlt (by unfold letter;simp;omega);clear hT d1 d2;exact k87
  ·obtain rfl:pos=s.size:=by omega
   (have hnx:∀ty,(Instr.next (.pointer (some ⟨w.heap.size,0,none⟩)) true ty).run Tryz.prog (w.iter s s.size)=_:=fun ty=>run_next_end w s s.size ty hlt);have HF:Hid (s.toList.all letter=true):=lettTo_all s hT;clear hT;go_wp2;go_ret;exact⟨-1,rfl,by rw[HF.out];rfl,HB.out _⟩
theorem sindex_calls (s:ByteArray)(hs:s.size<=9223372036854775807)(w:World):Calls Tryz.prog 153 #[.string s,.func (.func 121) #[] #[]] w fun e w' => ∃i:Int,e=.returned (.int .i64 i)/\decide (0<=i)=(!s.toList.all letter)/\Below w.heap.size w w' := by
 have HF:=findex_calls s hs w
 clear hs
 go_enter Tryz.func153,Tryz.ntmps153
 go_wp2_with fail
 refine HF.mono ?_
 rintro e W ⟨i,rfl,h1,h2⟩
 have HE:Hid (decide (0<=i)=(!s.toList.all letter)/\Below w.heap.size w W):=⟨h1,h2⟩
 clear h1 h2 HF
 go_wp2
 go_ret
 exact⟨i,rfl,HE.out⟩
theorem scontains_calls (s:ByteArray)(hs:s.size<=9223372036854775807)(w:World):Calls Tryz.prog 122 #[.string s,.func (.func 121) #[] #[]] w fun e w' => e=.returned (.bool (!s.toList.all letter))/\Below w.heap.size w w' := by
 have HF:=sindex_calls s hs w
 clear hs
 go_enter Tryz.func122,Tryz.ntmps122
 go_wp2_with fail
 refine HF.mono ?_
 rintro e W ⟨i,rfl,h1,h2⟩
 have HE:Hid (decide (0<=i)=(!s.toList.all letter)/\Below w.heap.size w W):=⟨h1,h2⟩
 clear h1 h2 HF
 go_wp2
 go_ret
 exact⟨by rw[<-HE.out.1];rfl,HE.out.2⟩
theorem sname_calls (s:ByteArray)(hs:s.size<=9223372036854775807)(w:World):Calls Tryz.prog 90 #[.string s] w fun e w' => e=.returned (.bool (letters s))/\Below w.heap.size w w' := by
 have HF:=scontains_calls s hs w
 have HR:Hid (Below w.heap.size w w):=zzd _ _
 by_cases h0:s.toList=[]
 ·have HL:Hid (letters s=false):=by
   show letters s=false
   unfold letters;rw[h0]
   rfl
  clear hs HF;go_enter Tryz.func90,Tryz.ntmps90;go_wp2;go_ret;exact⟨by rw[HL.out];rfl,HR.out⟩
 ·have HL:Hid (letters s=s.toList.all letter):=by
   show letters s=s.toList.all letter
   unfold letters;rw[List.isEmpty_eq_false_iff.2 h0,Bool.not_false,Bool.and_true]
  clear hs;go_enter Tryz.func90,Tryz.ntmps90;(go_wp2_with fail);refine HF.mono ?_;rintro e W ⟨rfl,h2⟩;have HE:Hid (Below w.heap.size w W):=h2;clear h2 HF;go_wp2;go_ret;exact⟨by rw[HL.out];first | rfl | (simp[h0]),HE.out⟩
theorem samename_calls (nm:ByteArray)(ta:Option Addr)(tl tc:Nat)(b:Nat)(on:ByteArray)(w:World)(hb:w.cell? ⟨b,0,none⟩=some (.string on)) :
  Calls Tryz.prog 89 #[.agg #[.string nm,.slice ta tl tc],.pointer (some ⟨b,0,none⟩)] w fun e w' => e=.returned (.bool (nm.toList==on.toList))/\Below w.heap.size w w' := by
 have hlt:=World.block_lt_of_cell? w _ hb
 have hB:Below w.heap.size w (w.alloc (.cells #[.string nm,.slice ta tl tc] 63)):=(zzd _ w).alloc (zzb _) _
 have h2:(w.alloc (.cells #[.string nm,.slice ta tl tc] 63)).cell? ⟨b,0,none⟩=some (.string on):=(hB.cell (p:=⟨b,0,none⟩) hlt).trans hb
 have HB:Hid (Below w.heap.size w (w.alloc (.cells #[.string nm,.slice ta tl tc] 63))):=hB
 clear hB hb
 go_enter Tryz.func89,Tryz.ntmps89
 go_wp2
 go_ret
 exact⟨rfl,HB.out⟩
def nameIn (gs:List Grp)(n:Nat)(on:ByteArray):Prop:=∃(j:Nat) (x:Grp),j<n/\gs[j]? = some x/\(x.1.toList==on.toList)=true
theorem gindex_calls (g o n c:Nat)(len:Nat)(gs:List Grp)(b:Nat)(on:ByteArray)(w:World)(hG:Groups w (some ⟨g,o,none⟩) len gs)(hn:n<=len)(hlen:len<=1000000)(hb:w.cell? ⟨b,0,none⟩=some (.string on)) :
  Calls Tryz.prog 123 #[.slice (some ⟨g,o,none⟩) n c,.func (.func 89) #[] #[.pointer (some ⟨b,0,none⟩)]] w fun e w' => ∃i:Int,e=.returned (.int .i64 i)/\(0<=i↔nameIn gs n on)/\Below w.heap.size w w' := by
 have hbl:=World.block_lt_of_cell? w _ hb
 have HX:Hid (∀(X:World) (j:Nat),Below w.heap.size w X->j<n->∃x ta tl tc,gs[j]? = some x/\X.cell? ⟨g,o+j * 2,none⟩=some (.string x.1)/\X.cell? ⟨g,o+j * 2+1,none⟩=some (.slice ta tl tc)/\Calls Tryz.prog 89 #[.agg #[.string x.1,.slice ta tl tc],.pointer (some ⟨b,0,none⟩)] X fun e w' => e=.returned (.bool (x.1.toList==on.toList))/\Below X.heap.size X w'):=fun X j hX hj=>by
  obtain⟨b', o', x,ta,tl,tc,h1,h2,h3,h4⟩:=hG.at (i:=j) oo;(injection h1 with h1);(injection h1 with e1 e2);subst e1 e2;obtain⟨h5,h6⟩:=h4 X hX;exact⟨x,ta,tl,tc,h2,h5,h6,samename_calls _ _ _ _ b on X ((hX.cell (p:=⟨b,0,none⟩) hbl).trans hb)⟩
 have hni:(n:Int)<=1000000:=by omega
 clear hG hb hbl
 go_enter Tryz.func123,Tryz.ntmps123
 go_wp2
 go_loopg [8] (n+1) (fun gk v wr=>∃j:Nat,j<=n/\n<j+gk/\v=.int .i64 (j:Int)/\(∀(q:Nat) (x:Grp),q<j->gs[q]? = some x->(x.1.toList==on.toList)=false)/\Below w.heap.size w wr)
 case atStart=>exact⟨0,zzn _,oo,rfl,fun q x hq=>by omega,zzd _ _⟩
 case round=>
  obtain⟨j,hj,hgk,rfl,hT,hB⟩:=hrel
  by_cases hlt:j<n
  ·obtain⟨x,ta,tl,tc,hx,c0,c1,HC⟩:=HX.out wr j hB hlt
   (have hii:(j:Int)<(n:Int):=by omega);(have hj0:(0:Int)<=(j:Int):=by omega);(have hd:decide ((j:Int)<(n:Int))=true:=by simpa using hii);obtain⟨r,hr⟩:∃r,(x.1.toList==on.toList)=r:=⟨_,rfl⟩;rw[hr] at HC;have HB:Hid (gs[j]? = some x/\(x.1.toList==on.toList)=r/\(∀(q:Nat) (x:Grp),q<j->gs[q]? = some x->(x.1.toList==on.toList)=false)/\Below w.heap.size w wr):=⟨hx,hr,hT,hB⟩;clear hT hB hx HX hr;(go_wp2_with fail);refine HC.mono ?_;rintro e W1 ⟨rfl,hB1⟩;have HB1:Hid (Below w.heap.size w W1):=HB.out.2.2.2.trans (hB1.mono HB.out.2.2.2.size);clear hB1 HC;cases r with
   | true=>
    go_wp2;go_ret;exact⟨(j:Int),rfl,⟨fun _=>⟨j,x,hlt,HB.out.1,HB.out.2.1⟩,fun _=>by omega⟩,HB1.out⟩
   | false=>
    go_wp2
    go_roundg (n - j)
    case measure=>omega
    case rel=>exact⟨j+1,oo,oo,by first | rfl | go_num,fun q y hq hy=>by
     by_cases e:q=j
     ·subst e
      rw[HB.out.1] at hy;cases hy;exact HB.out.2.1
     ·exact HB.out.2.2.1 q y oo hy,HB1.out⟩
  ·obtain rfl:j=n:=by omega
   (have hd:decide ((j:Int)<(j:Int))=false:=by simp);have HB:Hid ((∀(q:Nat) (x:Grp),q<j->gs[q]? = some x->(x.1.toList==on.toList)=false)/\Below w.heap.size w wr):=⟨hT,hB⟩;clear hT hB HX;go_wp2;go_ret;exact⟨-1,rfl,⟨fun h=>by omega,fun ⟨q,x,h1,h2,h3⟩=>by rw[HB.out.1 q x h1 h2] at h3;cases h3⟩,HB.out.2⟩
theorem gcontains_calls (g o n c:Nat)(len:Nat)(gs:List Grp)(b:Nat)(on:ByteArray)(w:World)(hG:Groups w (some ⟨g,o,none⟩) len gs)(hn:n<=len)(hlen:len<=1000000)(hb:w.cell? ⟨b,0,none⟩=some (.string on)) :
  Calls Tryz.prog 91 #[.slice (some ⟨g,o,none⟩) n c,.func (.func 89) #[] #[.pointer (some ⟨b,0,none⟩)]] w fun e w' => ∃r:Bool,e=.returned (.bool r)/\(r=true↔nameIn gs n on)/\Below w.heap.size w w' := by
 have HF:=gindex_calls g o n c len gs b on w hG hn hlen hb
 clear hG hb
 go_enter Tryz.func91,Tryz.ntmps91
 go_wp2_with fail
 refine HF.mono ?_
 rintro e W ⟨i,rfl,h1,h2⟩
 have HE:Hid ((0<=i↔nameIn gs n on)/\Below w.heap.size w W):=⟨h1,h2⟩
 clear h1 h2 HF
 go_wp2
 go_ret
 exact⟨decide (0<=i),rfl,by rw[decide_eq_true_iff];exact HE.out.1,HE.out.2⟩
def RightN (gs:List Grp):Prop:=∀(i:Nat) (x:Grp),gs[i]? = some x->letters x.1=true/\¬nameIn gs i x.1
theorem rightnames_calls (g c:Nat)(len:Nat)(gs:List Grp)(w:World)(hG:Groups w (some ⟨g,0,none⟩) len gs)(hlen:len<=1000000)(hc:len<=c)(hc2:c<=9223372036854775807)(hsz:∀x∈gs,x.1.size<=9223372036854775807) :
  Calls Tryz.prog 56 #[.slice (some ⟨g,0,none⟩) len c] w fun e w' => ∃r:Bool,e=.returned (.bool r)/\(r=true↔RightN gs)/\Below w.heap.size w w' := by
 have HX:Hid (∀(X:World) (j:Nat),Below w.heap.size w X->j<len->∃x ta tl tc,gs[j]? = some x/\X.cell? ⟨g,j * 2,none⟩=some (.string x.1)/\X.cell? ⟨g,j * 2+1,none⟩=some (.slice ta tl tc)/\x.1.size<=9223372036854775807):=fun X j hX hj=>by
  obtain⟨b', o', x,ta,tl,tc,h1,h2,h3,h4⟩:=hG.at (i:=j) hj;(injection h1 with h1);(injection h1 with e1 e2);subst e1 e2;obtain⟨h5,h6⟩:=h4 X hX;rw[Nat.zero_add] at h5 h6;exact⟨x,ta,tl,tc,h2,h5,h6,hsz x (zzj h2)⟩
 have HGC:Hid (∀(X:World) (j b cc:Nat) (on:ByteArray),Below w.heap.size w X->j<=len->X.cell? ⟨b,0,none⟩=some (.string on)->Calls Tryz.prog 91 #[.slice (some ⟨g,0,none⟩) j cc,.func (.func 89) #[] #[.pointer (some ⟨b,0,none⟩)]] X fun e w' => ∃r:Bool,e=.returned (.bool r)/\(r=true↔nameIn gs j on)/\Below X.heap.size X w'):=fun X j b cc on hX hj hb=>gcontains_calls g 0 j cc len gs b on X (hG.below hX) hj hlen hb
 have HLL:Hid (gs.length=len):=hG.1
 have hli:(len:Int)<=1000000:=by omega
 have hlc:(len:Int)<=(c:Int):=by omega
 have hci:(c:Int)<=9223372036854775807:=by omega
 clear hG hsz
 go_enter Tryz.func56,Tryz.ntmps56
 go_wp2
 go_loopg [8] (len+1) (fun gk v wr=>∃j:Nat,j<=len/\len<j+gk/\v=.int .i64 (j:Int)/\(∀(i:Nat) (x:Grp),i<j->gs[i]? = some x->letters x.1=true/\¬nameIn gs i x.1)/\Below w.heap.size w wr)
 case atStart=>exact⟨0,zzn _,oo,rfl,fun q x hq=>by omega,zzd _ _⟩
 case round=>
  obtain⟨j,hj,hgk,rfl,hT,hB⟩:=hrel
  by_cases hlt:j<len
  ·obtain⟨x,ta,tl,tc,hx,c0,c1,hxs⟩:=HX.out wr j hB hlt
   (have hii:(j:Int)<(len:Int):=by omega);(have hj0:(0:Int)<=(j:Int):=by omega);(have hd:decide ((j:Int)<(len:Int))=true:=by simpa using hii);(have hjc:(j:Int)<=(c:Int):=by omega);(have hjcn:j<=c:=by omega);obtain⟨V0,hV0⟩:∃V0,V0=wr.alloc (.cells #[.string x.1,.slice ta tl tc] 63):=⟨_,rfl⟩;(have hBV:Below wr.heap.size wr V0:=by rw[hV0];exact(zzd _ wr).alloc (zzb _) _);(have m0:V0.heap[wr.heap.size]? = some (.cells #[.string x.1,.slice ta tl tc] 63 (0,0)):=by rw[hV0];exact World.alloc_heap_new wr _);have hlt0:wr.heap.size<V0.heap.size:=(zza.1 m0).1
   have HKS:Hid (∀X:World,Below V0.heap.size V0 X->X.cell? ⟨wr.heap.size,0,none⟩=some (.string x.1)):=fun X hX=>by
    have mX:=(hX.block _ hlt0).trans m0;exact cell_of_row X wr.heap.size 0 _ _ _ mX
   have HVB:Hid (Below w.heap.size w V0):=hB.trans (hBV.mono hB.size);have HNM:=sname_calls x.1 hxs V0;have HV0:Hid (wr.alloc (.cells #[.string x.1,.slice ta tl tc] 63)=V0):=hV0.symm;have HB:Hid (gs[j]? = some x/\(∀(i:Nat) (x:Grp),i<j->gs[i]? = some x->letters x.1=true/\¬nameIn gs i x.1)):=⟨hx,hT⟩;have k0:=HKS.out V0 (zzd _ _);obtain⟨r,hr⟩:∃r,letters x.1=r:=⟨_,rfl⟩;rw[hr] at HNM;have HR:Hid (letters x.1=r):=hr;clear hT hB hx HX hr hV0 m0 hlt0 hBV hxs;(go_wp2_with fail);rw[HV0.out];refine HNM.mono ?_;rintro e W1 ⟨rfl,hB1⟩;have HB1:Hid (Below w.heap.size w W1):=HVB.out.trans (hB1.mono HVB.out.size);have k1:=HKS.out W1 hB1;have HCC:=HGC.out W1 j wr.heap.size c x.1 HB1.out hj k1;clear hB1 HNM;cases r with
   | false=>
    clear HCC;go_wp2;go_ret
    exact⟨false,rfl,⟨fun h=>(by cases h),fun h=>by
     have:=(h j x HB.out.1).1
     rw[HR.out] at this
     cases this⟩,HB1.out⟩
   | true=>
    (go_wp2_with fail);refine HCC.mono ?_;rintro e W2 ⟨r2,rfl,hr2,hB2⟩;have HB2:Hid (Below w.heap.size w W2):=HB1.out.trans (hB2.mono HB1.out.size);have HR2:Hid (r2=true↔nameIn gs j x.1):=hr2;clear hB2 hr2 HCC;cases r2 with
    | true=>
     go_wp2;go_ret;exact⟨false,rfl,⟨fun h=>(by cases h),fun h=>absurd (HR2.out.1 (by first | rfl | trivial)) (h j x HB.out.1).2⟩,HB2.out⟩
    | false=>
     go_wp2
     go_roundg (len - j)
     case measure=>omega
     case rel=>exact⟨j+1,oo,oo,by first | rfl | go_num,fun q y hq hy=>by
      by_cases e:q=j
      ·subst e
       rw[HB.out.1] at hy;cases hy;exact⟨HR.out,fun h=>by cases HR2.out.2 h⟩
      ·exact HB.out.2 q y oo hy,HB2.out⟩
  ·obtain rfl:j=len:=by omega
   (have hd:decide ((j:Int)<(j:Int))=false:=by simp);have HB:Hid (RightN gs/\Below w.heap.size w wr):=⟨fun i x hx=>hT i x (by have:=(zzc.1 hx).1;have:=HLL.out;omega) hx,hB⟩;clear hT hB HX;go_wp2;go_ret;exact⟨true,rfl,⟨fun _=>HB.out.1,fun _=>rfl⟩,HB.out.2⟩
end Go.Proofs.YtjkebndkeamijaaGreatDoor
