/-
  PROVED HERE: what the texts DACaretN, DAParseD, DAAuto, DAGrp, DATyp say.
-/
import Derived.Test.YtjkebndkeamijaaGreatDoorCA7
import Derived.Laws.BitsAllLaws
set_option maxRecDepth 100000
set_option maxHeartbeats 4000000
namespace Go.Proofs.YtjkebndkeamijaaGreatDoor
open Go.RowKit Go.Shelf
attribute [local go_sem] Oper.semAt_some
theorem gMm {P:Program}{o:Oper}{a:Act}{w:World}{K:Act->World->Prop}{Q:Exit->Act->World->Prop}{n:Nat}(hd:∀c,o.op ≠ .defer c)(h:o.wp P a w K (gGj Q)):o.wpIn Fence.wide n P a w K Q:=by
 unfold Oper.wpIn
 refine⟨fun _ _=>trivial,?_⟩
 rw[Oper.semAt_eq _ _ _ hd]
 unfold Oper.wp at h
 generalize (execOp a.eval o).run P w=r at h
 cases r with
 | ok x w' =>
  cases x with
  | value v=>exact h
  | skip=>exact h
  | defer d=>exact h
  | enter f args=>
   refine⟨(fun e=>by cases e),callsIn_wide.2 (h.mono ?_)⟩;exact k111
  | row row args=>
   exact k137
  | _=>exact h.elim
 | halt x w' =>
  cases x with
  | panic v=>exact h.elim
  | _=>exact h.elim
theorem vS {P:Program}{md:Region.Mode}{ops:Array Oper}{Q:Exit->Act->World->Prop}{n:Nat}(hd:gBa ops=true):∀(fuel:Nat) (listed:Array Bool) (a:Act) (w:World),wpAny P md ops (gGj Q) fuel listed a w->wpAnyIn Fence.wide n P md ops Q fuel listed a w
 | 0,_,_,_,h=>h
 | fuel+1,listed,a,w,h=>by
  refine⟨h.1,fun i hi=>?_⟩;have h2:=wpOp_mono (fun a' w' h' => vS (n:=n) hd fuel (listed.setIfInBounds i true) a' w' h') (h.2 i hi);unfold wpOp at h2;unfold wpOpIn
  split
  ·rename_i e
   simp only[e] at h2;exact h2
  ·rename_i o ho
   simp only[ho] at h2
   split
   ·rename_i hw
    simp only[hw,if_true] at h2;rcases h2 with h2 | ⟨_,_,_,h2⟩
    ·exact gMm (gAz hd ho) h2
    ·exact h2.elim
   ·rename_i hw
    simp only[hw] at h2;exact⟨fun _ _=>trivial,h2⟩
theorem gEw {P:Program}{S:World->Prop}{id:Nat}{ops:Array Oper}{Q:Exit->Act->World->Prop}{a:Act}{w:World}{n:Nat}(hm:P.follows .mixedOrders=true)(hd:gBa ops=true)(hS:S w.drew)
  (h:S w.drew->wpAnyH P .any ops (gGj Q) S ops.size (Array.replicate ops.size false) a w.drew):(Code.region id ops true).wpIn Fence.wide n P Q a w :=
 wpIn_region_any hm (vS hd _ _ _ _ (wpAny_of_held _ _ _ _ (h hS)))
def zA (F:Int->Bool)(E:Int)(n:Nat)(a s:Int):Int×Int:=if qC E n a=0 then rT F n a (tM s) else (0,qC E n a)
theorem gEs {X:World}{b c:Nat}{u v:Value}{t t' : TypeId}(h:X.heap[b]? = some (.cells #[u] t (0,0)))(k:X.heap[c]? = some (.cells #[v] t' (0,0)))(hn:b≠c)(u' v' : Value) :
  ((X.setCell ⟨b,0,none⟩ u').setCell ⟨c,0,none⟩ v').heap[b]? = some (.cells #[u'] t (0,0))/\((X.setCell ⟨b,0,none⟩ u').setCell ⟨c,0,none⟩ v').heap[c]? = some (.cells #[v'] t' (0,0)) :=
 ⟨(zzh _ _ _ _ hn).trans (heap_setCell_same X b 0 _ t u' h),heap_setCell_same _ c 0 _ t' v' ((zzh X _ u' c hn.symm).trans k)⟩
theorem gJk {F:Int->Bool}{l pre:List Int}{p:Int}(h:pre++[p] <+: l)(h1:∀q∈pre,F q=false)(h2:F p=true):l.find? F=some p:=by
 obtain⟨r,rfl⟩:=h
 rw[List.append_assoc,List.find?_append,List.find?_eq_none.2 (fun q hq=>by rw[h1 q hq];decide),Option.none_or,List.singleton_append,List.find?_cons_of_pos h2]
def gVb (F:Int->Bool)(w:World)(B:Nat)(a:Option Addr)(len cap:Nat)(pre:List Int)(W:World):Prop :=
 W.heap[w.heap.size]? = some (.cells #[.pointer (some ⟨B,0,none⟩)] 24 (0,0))/\W.heap[w.heap.size+1]? = some (.cells #[.slice a len cap] 22 (0,0))/\W.heap[w.heap.size+1+1]? = some (.cells #[.int .i64 0] 3 (0,0))/\W.heap[w.heap.size+1+1+1]? = some (.cells #[.int .i64 0] 28 (0,0))/\(∀q∈pre,F q=false)/\Below w.heap.size w W
def hFz (F:Int->Bool)(w:World)(c:Code)(pre:List Int)(W:World):Prop :=
 ∃pre' p,pre=pre' ++ [p]/\(∀q∈pre', F q=false)/\F p=true/\c=.ret/\W.heap[w.heap.size+1+1]? = some (.cells #[.int .i64 p] 3 (0,0))/\W.heap[w.heap.size+1+1+1]? = some (.cells #[.int .i64 0] 28 (0,0))/\Below w.heap.size w W
theorem k43{p:Prop}(h:p:=by
  gi_wp2
  obtain⟨k2,k3,q2,q3,hD,hs5,hsX⟩:=HQ.out;refine⟨by simp,.inl ⟨_,_,rfl,run_takeDeferred q2,?_⟩⟩;exact⟨_,wJ rfl _ _ ⟨w.heap.size+1+1,0,none⟩ ⟨w.heap.size+1+1+1,0,none⟩ _ _ rfl rfl (Tryz.isAgg3 _) (Tryz.isAgg28 _) (jS ((World.putObj_heap_other oo).trans k2)).1 (jS ((World.putObj_heap_other oo).trans k3)).1,by rw[HF.out],q3.trans (belowK_b (w:=w) (zzb _) _ D _ _ oo q2 rfl rfl)⟩
  ):p:=h
theorem gGm {w:World}{B:Nat}{a:Option Addr}{len cap:Nat}{A E:Int}{F:Int->Bool}(h:yF w B a len cap A E)(hm:gQp w B a len cap F)(hlen:(len:Int)<=9223372036854775807)(hE:E=0->len<=2048)(p s:Int) :
  Calls Tryz.prog 26 #[.pointer (some ⟨B,0,none⟩),.slice a len cap,.int .i64 p,.int .i64 s] w fun e X' => e=.returned (.tuple #[.int .i64 (zA F E len p s).1,.int .i64 (zA F E len p s).2])/\Below w.heap.size w X' := by
 obtain⟨W1,hW1⟩:∃W1,(((w.alloc (.cells #[.pointer (some ⟨B,0,none⟩)] 24)).alloc (.cells #[.slice a len cap] 22)).alloc (.cells #[.int .i64 0] 3)).alloc (.cells #[.int .i64 0] 28)=W1:=⟨_,rfl⟩
 have hs1:W1.heap.size=w.heap.size+4:=by rw[<-hW1];simp
 have hb1:Below w.heap.size w W1:=by rw[<-hW1];exact((((zzd _ w).alloc (zzb _) _).alloc (by simp) _).alloc (by simp;omega) _).alloc (by simp;omega) _
 obtain⟨m0,m1,m2,m3⟩:=hFu w (.cells #[.pointer (some ⟨B,0,none⟩)] 24) (.cells #[.slice a len cap] 22) (.cells #[.int .i64 0] 3) (.cells #[.int .i64 0] 28)
 rw[hW1] at m0 m1 m2 m3
 have HW1:=jG hW1
 have hI1:gVb F w B a len cap [] W1:=⟨m0,m1,m2,m3,(fun q hq=>by cases hq),hb1⟩
 have HC:=jG (vP h hlen p W1 hb1)
 have HI:Hid (∀X,Below W1.heap.size W1 X->gVb F w B a len cap [] X):=fun X hX=>⟨(hX.block _ oo).trans m0,(hX.block _ oo).trans m1,(hX.block _ oo).trans m2,(hX.block _ oo).trans m3,(fun q hq=>by cases hq),hb1.trans (hX.mono hb1.size)⟩
 obtain⟨c0,c1⟩:W1.cell? ⟨w.heap.size,0,none⟩=some (.pointer (some ⟨B,0,none⟩))/\W1.cell? ⟨w.heap.size+1,0,none⟩=some (.slice a len cap):=⟨(jS m0).1,(jS m1).1⟩
 have HM:=jG hm
 clear hW1 m0 m1 m2 m3 hI1 h hm
 unfold zA
 by_cases hq:qC E len p=0
 ·rw[if_pos hq]
  rw[hq] at HC
  obtain⟨hE0,hpl⟩:E=0/\mS len p=true:=by
   unfold qC at hq
   split at hq
   ·split at hq
    ·exact⟨by assumption,by assumption⟩
    ·cases hq
   ·exact absurd hq (by assumption)
  have hl48:=hE hE0;have hp' := jM.1 hpl;have hy:=gUb s;(have HWY:Hid (∀X:World,Calls Tryz.prog 66 #[.int .i64 s] X fun e w' => e=.returned (.int .i64 (tM s))/\w' = X):=fun X=>gDa s X);generalize tM s=y at *;refine(callsIn_wide (n:=6)).1 ?_;refine callsIn_of_wp_marks Tryz.func26 rfl trivial ?_ rfl;simp only[Tryz.ntmps26,List.size_toArray,List.length_cons,List.length_nil,Nat.reduceAdd,Nat.reduceSub,Array.replicate_succ,Array.replicate_zero,List.push_toArray,List.append_toArray,List.nil_append,List.cons_append];have hfc:Fence.wide.fn 63:=trivial;have hfm:Fence.wide.fn 14:=trivial
  gi_wp2_with (gi_at_call 63;rw[HW1.out];refine(callsIn_wide.2 HC.out).mono ?_;rintro e X ⟨rfl,hX⟩)
  (have HKW:Hid (∀Y,Below X.heap.size X Y->Y.cell? ⟨w.heap.size+1,0,none⟩=some (.slice a len cap)):=fun Y hY=>(jS (HI.out Y (hX.trans (hY.mono hX.size))).2.1).1);refine gEw (S:=fun Y=>Below X.heap.size X Y) mixed kr (zzd _ _).drew (fun hS=>?_);refine gA 0 (some 19) hS ?_ (hy:=by intro w hSw;have k0:=HKW.out _ hSw;(try go_simp);with_reducible rfl);refine gA 1 (some 20) hS ?_;refine gA 2 (some 21) hS ?_;refine gA 3 (some 22) hS ?_;refine gT 4 kr rfl (fun K hK=>?_);rw[if_pos (by rfl)];go_simp;refine(HWY.out _).mono ?_;rintro e X' ⟨rfl,rfl⟩;refine hK.out _ _ hS (fun _=>?_);clear hK K
  try simp only[gQ]
  refine gT 5 kr rfl (fun K hK=>?_);rw[if_pos (by rfl)];go_simp;refine(callsIn_wide.1 (gOc Fence.wide 5 trivial rfl _ _ _ _)).mono ?_;rintro e X5 ⟨rfl,hX5⟩;(have hv5:gMi X5 X.heap.size len p y:=by rw[hX5];exact hCd X.drew ..);(have hB5:Below X.heap.size X X5:=by rw[hX5];exact(((zzd _ X).drew.alloc (zzb _) _).alloc (by rw[World.size_alloc];exact Nat.le_succ _) _).alloc (by rw[World.size_alloc,World.size_alloc];exact Nat.le_trans (Nat.le_succ _) (Nat.le_succ _)) _);(have hs5:X5.heap.size=X.heap.size+3:=by rw[hX5];simp);(have hsX:w.heap.size+4<=X.heap.size:=by rw[<-hs1];exact hX.size);have hI5:=HI.out X5 (hX.trans (hB5.mono hX.size));refine hK.out _ _ hB5 (fun _=>?_);clear hK K
  try simp only[gQ]
  refine wpAnyH_done kr ?_ _;dsimp only[gGj]
  have hown:OwnFrom X5.heap.size (gVb F w B a len cap):=by
   rintro pre W W' row ⟨i0,i1,i2,i3,i4,i5⟩ hg hrr;exact⟨lP hg hrr i0,lP hg hrr i1,lP hg hrr i2,lP hg hrr i3,i4,sC i5 hg hrr oo i5.size⟩
  have hownX:∀c,OwnFrom X5.heap.size (hFz F w c):=by
   rintro c pre W W' row ⟨pre', q,h1,h2,h3,h4,h5,h6,h7⟩ hg hrr;exact⟨pre', q,h1,h2,h3,h4,lP hg hrr h5,lP hg hrr h6,sC h7 hg hrr oo h7.size⟩
  clear hX5 hb1 hS hX
  gi_wp2_with fail
  refine wpIn_rangeFunc_ownH rfl oo (gf:=99) (lb:=#[.pointer (some ⟨X.heap.size+1,0,none⟩),.pointer (some ⟨X.heap.size,0,none⟩),.pointer (some ⟨X.heap.size+1+1,0,none⟩)]) rfl trivial (enters_of Tryz.func99 kr rfl)
   (encs:=fun q:Int=>#[.int .i64 q]) (Kp:=KpC X.heap.size) (S:=fun ys=>ys=nC len p y len) (Sp:=fun pre=>pre <+: nC len p y len) (N:=2 * len+2) (w0:=X5)
   (fun li J Jx W hW hJ _ hY h0=>gKx 5 oo li X.heap.size len p y hy hp' hl48 J Jx W hY (hv5.kp ⟨hW.size,fun k h1 h2=>hW.block k oo⟩) h0)
   (fun h k=>h.trans k) (fun W li o o' hl h1 h2 h3=>⟨by simp,fun k h4 h5=>World.putObj_heap_other oo⟩) (zzd _ _) (fun _=>rfl)
   (gVb F w B a len cap) (hFz F w) hown hownX hI5
   (fun q a' W=>a' = { tmps:=#[.pointer (some ⟨B,0,none⟩),.slice a len cap,.int .i64 p,.int .i64 s,.pointer (some ⟨w.heap.size,0,none⟩),.pointer (some ⟨w.heap.size+1,0,none⟩),undef,undef,.pointer (some ⟨w.heap.size+1+1,0,none⟩),.pointer (some ⟨w.heap.size+1+1+1,0,none⟩),.int .i64 0,.int .i64 q,.pointer (some ⟨B,0,none⟩),.slice a len cap,.int .i64 p,.int .i64 0,.int .i64 0,.bool false,undef,.slice a len cap,.int .i64 (len:Int),.int .i64 p,.int .i64 s,.int .i64 y,.func (.func 99) #[] #[.pointer (some ⟨X.heap.size+1,0,none⟩),.pointer (some ⟨X.heap.size,0,none⟩),.pointer (some ⟨X.heap.size+1+1,0,none⟩)],.int .i64 q,undef,undef,undef,undef,undef],defers:=[] }) ?hax ?assign ?body ?done ?stop
  case hax=>
   rintro q a' _ W W' row h hg hrr;exact h
  case assign=>
   rintro li pre q W K hi hK;have HK:=jG hK;clear hK
   gi_wp2
   exact HK.out _ _ (KeepsFrom.refl _ _) ⟨zzb _,fun _ _ _=>rfl⟩ hi rfl
  case body=>
   rintro li pre q a' W hli ⟨r,hrec⟩ ⟨i0,i1,i2,i3,i4,i5⟩ rfl hlt;have HMQ:=jG (HM.out W i5 q);have e0:=(jS i0).1;have e1:=(jS i1).1;have hsW:w.heap.size+1+1+1<W.heap.size:=(zza.1 i3).1;have hlW:=jG (show X.heap.size+3<=W.heap.size from by have:=(zza.1 hrec).1;omega);(have HIX:Hid (∀Y,Below W.heap.size W Y->Y.heap[w.heap.size]? = some (.cells #[.pointer (some ⟨B,0,none⟩)] 24 (0,0))/\Y.heap[w.heap.size+1]? = some (.cells #[.slice a len cap] 22 (0,0))/\Y.heap[w.heap.size+1+1]? = some (.cells #[.int .i64 0] 3 (0,0))/\Y.heap[w.heap.size+1+1+1]? = some (.cells #[.int .i64 0] 28 (0,0))/\Below w.heap.size w Y):=fun Y hY=>⟨(hY.block _ oo).trans i0,(hY.block _ oo).trans i1,(hY.block _ oo).trans i2,(hY.block _ oo).trans i3,i5.trans (hY.mono i5.size)⟩);have HI4:=jG i4;have HI2:=jG i2;have HI3:=jG i3;have HSZ:=jG (show w.heap.size+4<=X.heap.size/\X5.heap.size=X.heap.size+3 from ⟨oo,oo⟩);clear i0 i1 i2 i3 i4 hown hownX hI5 hv5 hlt hrec;cases hF:F q with
   | false=>
    rw[hF] at HMQ
    gi_wp2_with (gi_at_call 14;refine(CallsIn.inRound li (callsIn_wide.2 HMQ.out)).mono ?_;rintro e Y ⟨rfl,hY⟩)
    obtain⟨y0,y1,y2,y3,y5⟩:=HIX.out Y hY;refine⟨?_,?_,y0,y1,y2,y3,fun z hz=>?_,y5⟩
    ·exact KeepsFrom.of_grownBy (row:=none) ⟨hY.os,hY.tape,hY.output,hY.size,fun k hk _=>hY.block k hk⟩ (fun j e=>by cases e)
    ·exact⟨hY.size,fun k h1 h2=>hY.block k (by have:=hlW.out;omega)⟩
    ·rcases List.mem_append.1 hz with hz | hz
     ·exact HI4.out z hz
     ·obtain rfl:z=q:=by simpa using hz
      exact hF
   | true=>
    rw[hF] at HMQ
    gi_wp2_with (gi_at_call 14;refine(CallsIn.inRound li (callsIn_wide.2 HMQ.out)).mono ?_;rintro e Y ⟨rfl,hY⟩;obtain⟨_,_,y2,y3,_⟩:=HIX.out Y hY;obtain⟨j2,f2⟩:=jS y2;obtain⟨j3,f3⟩:=jS y3)
    obtain⟨_,_,z2,z3,z5⟩:=HIX.out Y hY;obtain⟨k2,k3⟩:=gEs z2 z3 oo (.int .i64 q) (.int .i64 0);have hz:=HSZ.out;refine⟨?_,pre,q,rfl,HI4.out,hF,rfl,k2,k3,(z5.setCell (p:=⟨w.heap.size+1+1,0,none⟩) (by show w.heap.size<=w.heap.size+1+1;omega) _).setCell (p:=⟨w.heap.size+1+1+1,0,none⟩) (by show w.heap.size<=w.heap.size+1+1+1;omega) _⟩;exact((KeepsFrom.of_grownBy (row:=none) ⟨hY.os,hY.tape,hY.output,hY.size,fun k hk _=>hY.block k hk⟩ (fun j e=>by cases e)).trans (KeepsFrom.of_grownBy (grownBy_setCell' Y _ _) (fun j e=>by cases e;omega))).trans (KeepsFrom.of_grownBy (grownBy_setCell' _ _ _) (fun j e=>by cases e;omega))
  case done=>
   rintro D ys W hD rfl ⟨_,_,i2,i3,i4,i5⟩ hK;have HF:=jG (show rT F len p y=(0,6) from by unfold rT;rw[List.find?_eq_none.2 (fun q hq=>by rw[i4 q hq];decide)]);obtain⟨j2,f2⟩:=jS i2;obtain⟨j3,f3⟩:=jS i3;obtain⟨k2,k3⟩:=gEs i2 i3 oo (.int .i64 0) (.int .i64 6)
   have q2:((W.setCell ⟨w.heap.size+1+1,0,none⟩ (.int .i64 0)).setCell ⟨w.heap.size+1+1+1,0,none⟩ (.int .i64 6)).heap[D]? = some (.deferred (some [])):=by
    rw[zzh _ _ _ D (by show D≠w.heap.size+1+1+1;omega),zzh _ _ _ D (by show D≠w.heap.size+1+1;omega)];exact hK
   have q3:Below w.heap.size w ((W.setCell ⟨w.heap.size+1+1,0,none⟩ (.int .i64 0)).setCell ⟨w.heap.size+1+1+1,0,none⟩ (.int .i64 6)):=(i5.setCell (p:=⟨w.heap.size+1+1,0,none⟩) (by show w.heap.size<=w.heap.size+1+1;omega) _).setCell (p:=⟨w.heap.size+1+1+1,0,none⟩) (by show w.heap.size<=w.heap.size+1+1+1;omega) _;have HQ:=jG (And.intro k2 (And.intro k3 (And.intro q2 (And.intro q3 (And.intro hD (And.intro hs5 hsX))))));clear i2 i3 i4 i5 hown hownX hI5 hv5 hD hK k2 k3 q2 q3;exact k43
  case stop=>
   rintro D c pre W hD hpre ⟨pre', q,rfl,h2,h3,rfl,k2,k3,q3⟩ q2;have HF:=jG (show rT F len p y=(q,0) from by unfold rT;rw[gJk hpre h2 h3]);have HQ:=jG (And.intro k2 (And.intro k3 (And.intro q2 (And.intro q3 (And.intro hD (And.intro hs5 hsX))))));clear hown hownX hI5 hv5 hD k2 k3 q2 q3 hpre h2 h3;exact k43
 ·rw[if_neg hq]
  generalize qC E len p=q at *;(have hd:(q != 0)=true:=by simpa using hq);go_enter Tryz.func26,Tryz.ntmps26;(go_wp2_with fail);rw[HW1.out];refine HC.out.mono ?_;rintro e X ⟨rfl,hX⟩;obtain⟨_,_,i2,i3,_,hB⟩:=HI.out X hX;obtain⟨j2,f2⟩:=jS i2;obtain⟨j3,f3⟩:=jS i3;have HBX:=jG hB;have HI2:=jG i2;have HI3:=jG i3;clear hX hB i2 i3 hb1;go_wp2;obtain⟨k2,k3⟩:=gEs HI2.out HI3.out oo (.int .i64 0) (.int .i64 q);refine bodyPost_ret (wJ rfl _ _ ⟨w.heap.size+1+1,0,none⟩ ⟨w.heap.size+1+1+1,0,none⟩ _ _ rfl rfl (Tryz.isAgg3 _) (Tryz.isAgg28 _) (jS k2).1 (jS k3).1) rfl ?_;exact⟨rfl,(HBX.out.setCell (p:=⟨w.heap.size+1+1,0,none⟩) (by show w.heap.size<=w.heap.size+1+1;omega) _).setCell (p:=⟨w.heap.size+1+1+1,0,none⟩) (by show w.heap.size<=w.heap.size+1+1+1;omega) _⟩
end Go.Proofs.YtjkebndkeamijaaGreatDoor
namespace Go.Proofs.YtjkebndkeamijaaGreatDoor
open Go.RowKit
theorem gKw (s:ByteArray)(hs:s.size<=9223372036854775807)(w:World)(hg:ETy w) :
  Calls Tryz.prog 124 #[.string s] w fun e w' => Below w.heap.size w w' /\ ∃r,ExA (fun b=>w.heap.size<=b) w' 200 (gO s) (jI r)/\e=.returned (.tuple #[jI r,.int .i64 (qB s:Int),.int .i64 (nZ s)]):=by
 have HR:Hid (∀W,Calls Tryz.prog 154 #[.string s] W fun e w' => Below W.heap.size W w' /\ Rdd W.heap.size s e w'):=fun W=>gRv s hs W
 have HT:Hid (∀W,Below w.heap.size w W->Calls Tryz.prog 155 #[uL (qB s) (nZ s)] W fun e w' => e=.returned (.tuple #[.int .i64 (qB s:Int),.int .i64 (nZ s)])/\Below W.heap.size W w'):=fun W hW=>gQv (qB s) (nZ s) W (hg.below hW)
 clear hg hs
 go_enter Tryz.func124,Tryz.ntmps124
 go_wp2_with fail
 refine(HR.out _).mono ?_
 rintro e1 W1 ⟨hB1,hE⟩
 have hz1:W1.heap[w.heap.size]? = some (.cells #[.int .i64 0,.string ⟨#[]⟩,.slice none 0 0] 69 (0,0)):=(hB1.block _ (by simp)).trans (heap_alloc_new w _)
 have hB:Below w.heap.size w W1:=((zzd _ w).alloc (zzb _) _).trans (hB1.mono (by simp))
 have hs1:w.heap.size<W1.heap.size:=by have:=hB1.size;simp only[World.size_alloc] at this;omega
 clear HR
 rcases hE with ⟨t,r,o1,o2,o3,hX,rfl⟩ | ⟨o1,o2,rfl⟩
 ·obtain⟨k,nm,a,ln,cp⟩:=r
  unfold jI at hX ⊢;simp only at hX ⊢;have HO:Hid (rX s=some t/\nZ s=0/\qB s=s.size):=⟨o1,o2,o3⟩;(have HZ:Hid (∀o,(W1.alloc o).heap[w.heap.size]? = some (.cells #[.int .i64 0,.string ⟨#[]⟩,.slice none 0 0] 69 (0,0))):=fun o=>(zzf W1 o _ hs1).trans hz1);(have HF:Hid (∀o cs,Below w.heap.size w ((W1.alloc o).setRow w.heap.size cs)):=fun o cs=>below_setRow (hB.alloc oo o) (zzb _) cs);(have HX:Hid (∀o cs,ExA (fun b=>w.heap.size<=b) ((W1.alloc o).setRow w.heap.size cs) 200 t (.agg #[.int .i64 k,.string nm,.slice a ln cp])):=fun o cs=>ExA.kept (by rw[size_setRow];simp) (fun b hb hA=>by simp only[World.size_alloc] at hA;exact⟨oo,(setRow_other _ _ _ _ oo).trans (zzf W1 o b hb)⟩) _ _ _ hX);clear hX hz1 hB hB1 hs1 o1 o2 o3 HT;(go_wp2_with (refine wpList_store_row rfl 69 _ _ rfl w.heap.size #[.int .i64 k,.string nm,.slice a ln cp] rfl rfl 69 _ (HZ.out _) gE rfl (jF _ _ _ _ _) ?_));refine bodyPost_ret (lQ rfl _ _ w.heap.size 69 #[.int .i64 k,.string nm,.slice a ln cp] (0,0) _ rfl (setRow_heap _ _ _ _ _ _ (HZ.out _)) Tryz.underlying69 rfl gE) rfl ?_;refine⟨HF.out _ _,(k,nm,a,ln,cp),?_,?_⟩
  ·unfold gO
   rw[HO.out.1];exact HX.out _ _
  ·rw[HO.out.2.1,HO.out.2.2]
   rfl
 ·have HO:Hid (rX s=none):=o1
  have HZ:Hid ((W1.alloc (.cells #[.int .i64 0,.string ⟨#[]⟩,.slice none 0 0] 69)).heap[w.heap.size]? = some (.cells #[.int .i64 0,.string ⟨#[]⟩,.slice none 0 0] 69 (0,0))):=(zzf W1 _ _ hs1).trans hz1;have HB:Hid (Below w.heap.size w (W1.alloc (.cells #[.int .i64 0,.string ⟨#[]⟩,.slice none 0 0] 69))/\w.heap.size<(W1.alloc (.cells #[.int .i64 0,.string ⟨#[]⟩,.slice none 0 0] 69)).heap.size):=⟨hB.alloc oo _,by simp;omega⟩;clear hz1 hB hB1 hs1 o1;unfold zE;obtain⟨N,hN⟩:∃N,qB s=N:=⟨_,rfl⟩;obtain⟨E,hEE⟩:∃E,nZ s=E:=⟨_,rfl⟩;have HN:Hid (qB s=N/\nZ s=E):=⟨hN,hEE⟩;rw[hN,hEE] at HT ⊢;clear hN hEE o2;unfold uL at HT ⊢;(go_wp2_with fail);refine(HT.out _ HB.out.1).mono ?_;rintro e3 W3 ⟨rfl,hB3⟩;have HZ3:Hid (W3.heap[w.heap.size]? = some (.cells #[.int .i64 0,.string ⟨#[]⟩,.slice none 0 0] 69 (0,0))):=(hB3.block _ HB.out.2).trans HZ.out;(have HF:Hid (∀cs,Below w.heap.size w (W3.setRow w.heap.size cs)):=fun cs=>below_setRow (HB.out.1.trans (hB3.mono HB.out.1.size)) (zzb _) cs);clear hB3 HZ HB HT;(go_wp2_with (refine wpList_store_row rfl 69 _ _ rfl w.heap.size #[.int .i64 0,.string ⟨#[]⟩,.slice none 0 0] rfl rfl 69 _ HZ3.out gE rfl (jF _ _ _ _ _) ?_));refine bodyPost_ret (lQ rfl _ _ w.heap.size 69 #[.int .i64 0,.string ⟨#[]⟩,.slice none 0 0] (0,0) _ rfl (setRow_heap _ _ _ _ _ _ HZ3.out) Tryz.underlying69 rfl gE) rfl ?_;refine⟨HF.out _,(0,⟨#[]⟩,none,0,0),?_,by rw[HN.out.1,HN.out.2];rfl⟩;unfold gO;rw[HO.out];exact ExA.leaf _ _ 199 0 ⟨#[]⟩ none 0
end Go.Proofs.YtjkebndkeamijaaGreatDoor
namespace Go.Proofs.YtjkebndkeamijaaGreatDoor
abbrev gD:Type:=Nat×List Nat×Nat
def gG (L:List gD)(p:Nat):Nat :=
 match L[p]? with
 | some x=>x.2.2
 | none=>0
def mW (m:Nat)(t:Int):Bool:=decide (0<=t)&&decide (t<16)&&m.testBit t.toNat
theorem sQ (t:Int):mW 0 t=false:=by unfold mW;simp
theorem nP {L:List gD}{p:Nat}{x:gD}(h:L[p]? = some x):gG L p=x.2.2:=by unfold gG;rw[h]
theorem mH {L L' : List gD}{p:Nat}(h:L'[p]? = L[p]?):gG L' p=gG L p:=by unfold gG;rw[h]
def hGo (L:List gD)(p:Nat)(x:gD):Prop:=x.1≠0/\∃q,x.2.1=[q]/\q<p/\x.2.2=gG L q+1
def hGp (L:List gD)(p:Nat)(x:gD):Prop:=x.1=0/\(∀q∈x.2.1,q<L.length/\x.2.2<=gG L q)/\∃q∈x.2.1,q<p/\x.2.2=gG L q
def wf (L:List gD):Prop:=L[0]? = some (0,[],0)/\∀p x,0<p->L[p]? = some x->hGo L p x\/hGp L p x
theorem wf.pos {L:List gD}(h:wf L):0<L.length:=(zzc.1 h.1).1
theorem gEz:wf [((0,[],0):gD)]:=⟨rfl,fun p x hp hx=>by
 have:=(zzc.1 hx).1
 simp at this
 omega⟩
theorem lB {L:List gD}{y:gD}{p:Nat}(h:p<L.length):(L++[y])[p]? = L[p]? := List.getElem?_append_left h
theorem jR {L:List gD}{y:gD}:(L++[y])[L.length]? = some y:=by simp
theorem gZj {L:List gD}(h:wf L){y:gD}(hy:(y.1≠0/\∃q,y.2.1=[q]/\q<L.length/\y.2.2=gG L q+1)\/(y.1=0/\(∀q∈y.2.1,q<L.length/\y.2.2<=gG L q)/\∃q∈y.2.1,y.2.2=gG L q)):wf (L++[y]):=by
 have hl:∀q,q<L.length->gG (L++[y]) q=gG L q:=fun q hq=>mH (lB hq)
 refine⟨by rw[lB h.pos];exact h.1,fun p x hp hx=>?_⟩
 rcases Nat.lt_or_ge p L.length with hlt | hge
 ·rw[lB hlt] at hx
  rcases h.2 p x hp hx with ⟨h1,q,h2,h3,h4⟩ | ⟨h1,h2,q,h3,h4,h5⟩
  ·exact .inl ⟨h1,q,h2,h3,by rw[hl q oo];exact h4⟩
  ·refine .inr ⟨h1,fun r hr=>?_,q,h3,h4,by rw[hl q oo];exact h5⟩
   obtain⟨g1,g2⟩:=h2 r hr;exact⟨by simp;omega,by rw[hl r g1];exact g2⟩
 ·have hpl:p=L.length:=by
   have:=(zzc.1 hx).1
   simp at this;omega
  subst hpl;rw[jR] at hx;cases hx;rcases hy with ⟨h1,q,h2,h3,h4⟩ | ⟨h1,h2,q,h3,h4⟩
  ·exact .inl ⟨h1,q,h2,h3,by rw[hl q h3];exact h4⟩
  ·refine .inr ⟨h1,fun r hr=>?_,q,h3,(h2 q h3).1,by rw[hl q (h2 q h3).1];exact h4⟩
   obtain⟨g1,g2⟩:=h2 r hr;exact⟨by simp;omega,by rw[hl r g1];exact g2⟩
def nX (L:List gD)(i q:Nat):List gD:=L.modify i (fun x=>(x.1,x.2.1++[q],x.2.2))
theorem kF (L:List gD)(i q:Nat):(nX L i q).length=L.length:=by unfold nX;simp
theorem pO {L:List gD}{i q p:Nat}(h:p≠i):(nX L i q)[p]? = L[p]? := by unfold nX;rw[List.getElem?_modify];simp[Ne.symm h]
theorem tJ {L:List gD}{i q:Nat}{x:gD}(h:L[i]? = some x):(nX L i q)[i]? = some (x.1,x.2.1++[q],x.2.2):=by unfold nX;rw[List.getElem?_modify,h];simp
theorem mP (L:List gD)(i q p:Nat):gG (nX L i q) p=gG L p:=by
 by_cases h:p=i
 ·subst h
  cases hx:L[p]? with
  | none=>
   have:(nX L p q)[p]? = none:=by
    rw[List.getElem?_eq_none_iff] at hx ⊢;rw[kF];exact hx
   unfold gG;rw[hx,this]
  | some x=>rw[nP hx,nP (tJ hx)]
 ·exact mH (pO h)
theorem hDo {L:List gD}(h:wf L){i q:Nat}{y:gD}(hi:0<i)(hy:L[i]? = some y)(hz:y.1=0)(hq:q<L.length)(hl:y.2.2<=gG L q):wf (nX L i q):=by
 refine⟨by rw[pO oo];exact h.1,fun p x hp hx=>?_⟩
 by_cases hpi:p=i
 ·subst hpi
  rw[tJ hy] at hx;cases hx;rcases h.2 p y hp hy with ⟨h1,_⟩ | ⟨h1,h2,r,h3,h4,h5⟩
  ·exact absurd hz h1
  ·refine .inr ⟨h1,fun s hs=>?_,r,List.mem_append_left _ h3,h4,by rw[mP];exact h5⟩
   rw[kF,mP];rcases List.mem_append.1 hs with hs | hs
   ·exact h2 s hs
   ·simp at hs
    subst hs;exact⟨hq,hl⟩
 ·rw[pO hpi] at hx
  rcases h.2 p x hp hx with ⟨h1,r,h2,h3,h4⟩ | ⟨h1,h2,r,h3,h4,h5⟩
  ·exact .inl ⟨h1,r,h2,h3,by rw[mP];exact h4⟩
  ·refine .inr ⟨h1,fun s hs=>?_,r,h3,h4,by rw[mP];exact h5⟩
   rw[kF,mP];exact h2 s hs
def jZ (F:List gD):Nat->Nat->List Int->Prop
 | 0,p,w=>p=0/\w=[]
 | k+1,p,w=>(p=0/\w=[])\/∃x,F[p]? = some x/\((x.1=0/\∃q∈x.2.1,jZ F k q w)\/(x.1≠0/\∃t v q,w=t::v/\mW x.1 t=true/\x.2.1[0]? = some q/\jZ F k q v))
theorem jZ.up {F:List gD}:∀{k p:Nat} {w:List Int},jZ F k p w->jZ F (k+1) p w:=by
 intro k
 induction k with
 | zero=>intro p w h;exact .inl h
 | succ k ih=>
  intro p w h;rcases h with h | ⟨x,hx,⟨h0,q,hq,hr⟩ | ⟨h0,t,v,q,e,ht,hq,hr⟩⟩
  ·exact .inl h
  ·exact .inr ⟨x,hx,.inl ⟨h0,q,hq,ih hr⟩⟩
  ·exact .inr ⟨x,hx,.inr ⟨h0,t,v,q,e,ht,hq,ih hr⟩⟩
theorem jZ.upto {F:List gD}{k m p:Nat}{w:List Int}(h:k<=m)(hr:jZ F k p w):jZ F m p w:=by
 induction h with
 | refl=>exact hr
 | step _ ih=>exact jZ.up ih
end Go.Proofs.YtjkebndkeamijaaGreatDoor
namespace Go.Proofs.YtjkebndkeamijaaGreatDoor
open Go.RowKit
def kA (w:World)(a:Option Addr)(len:Nat)(zs:List Int):Prop :=
 zs.length=len/\len<=9223372036854775807/\(len=0\/∃b o,a=some ⟨b,o,none⟩/\b<w.heap.size/\∀i x,zs[i]? = some x->w.cell? ⟨b,o+i,none⟩=some (.int .i64 x))
theorem kA.below {w w' : World}{a:Option Addr}{len:Nat}{zs:List Int}(h:kA w a len zs)(hb:Below w.heap.size w w'):kA w' a len zs:=by
 obtain⟨h1,h2,h3⟩:=h
 refine⟨h1,h2,?_⟩
 rcases h3 with h3 | ⟨b,o,rfl,hlt,hc⟩
 ·exact .inl h3
 ·exact .inr ⟨b,o,rfl,zzl hlt hb.size,fun i x hx=>(hb.cell (p:=⟨b,o+i,none⟩) hlt).trans (hc i x hx)⟩
theorem kA.at {w:World}{a:Option Addr}{len:Nat}{zs:List Int}(h:kA w a len zs){i:Nat}(hi:i<len):∃b o x,a=some ⟨b,o,none⟩/\zs[i]? = some x/\∀W:World,Below w.heap.size w W->W.cell? ⟨b,o+i,none⟩=some (.int .i64 x):=by
 obtain⟨h1,_,h3⟩:=h
 rcases h3 with h3 | ⟨b,o,rfl,hlt,hc⟩
 ·omega
 ·have hx:zs[i]? = some (zs[i]'(by omega)):=zze oo
  exact⟨b,o,_,rfl,hx,fun W hb=>(hb.cell (p:=⟨b,o+i,none⟩) hlt).trans (hc i _ hx)⟩
abbrev Grp:Type:=ByteArray×List Int
def iS (w:World)(a:Option Addr)(len:Nat)(gs:List Grp):Prop :=
 gs.length=len/\len<=9223372036854775807/\(len=0\/∃b o,a=some ⟨b,o,none⟩/\b<w.heap.size/\∀i g,gs[i]? = some g->∃a' len' cap',
  w.cell? ⟨b,o+i * 2,none⟩=some (.string g.1)/\w.cell? ⟨b,o+i * 2+1,none⟩=some (.slice a' len' cap')/\kA w a' len' g.2)
theorem iS.below {w w' : World}{a:Option Addr}{len:Nat}{gs:List Grp}(h:iS w a len gs)(hb:Below w.heap.size w w'):iS w' a len gs:=by
 obtain⟨h1,h2,h3⟩:=h
 refine⟨h1,h2,?_⟩
 rcases h3 with h3 | ⟨b,o,rfl,hlt,hc⟩
 ·exact .inl h3
 ·refine .inr ⟨b,o,rfl,zzl hlt hb.size,fun i g hg=>?_⟩
  obtain⟨a', len', cap', c0,c1,c2⟩:=hc i g hg;exact⟨a', len', cap', (hb.cell (p:=⟨b,_,none⟩) hlt).trans c0,(hb.cell (p:=⟨b,_,none⟩) hlt).trans c1,c2.below hb⟩
theorem iS.at {w:World}{a:Option Addr}{len:Nat}{gs:List Grp}(h:iS w a len gs){i:Nat}(hi:i<len):∃b o g a' len' cap', a=some ⟨b,o,none⟩/\gs[i]? = some g/\kA w a' len' g.2/\∀W:World,Below w.heap.size w W →
  W.cell? ⟨b,o+i * 2,none⟩=some (.string g.1)/\W.cell? ⟨b,o+i * 2+1,none⟩=some (.slice a' len' cap'):=by
 obtain⟨h1,_,h3⟩:=h
 rcases h3 with h3 | ⟨b,o,rfl,hlt,hc⟩
 ·omega
 ·have hx:gs[i]? = some (gs[i]'(by omega)):=zze oo
  obtain⟨a', len', cap', c0,c1,c2⟩:=hc i _ hx;exact⟨b,o,_,a', len', cap', rfl,hx,c2,fun W hb=>⟨(hb.cell (p:=⟨b,_,none⟩) hlt).trans c0,(hb.cell (p:=⟨b,_,none⟩) hlt).trans c1⟩⟩
def qM (t:Int):Bool:=decide (0<=t)&&decide (t<16)
theorem k127{p:Prop}(h:p:=by
  go_enter Tryz.func163,Tryz.ntmps163;go_wp2;go_ret;exact⟨by first | rfl | simp[h1],rfl⟩
  ):p:=h
theorem gBf (t:Int)(w:World):Calls Tryz.prog 163 #[.int .i64 t] w fun e w' => e=.returned (.bool (qM t))/\w' = w:=by
 unfold qM
 by_cases h1:0<=t
 ·exact k127
 ·have h2:decide (0<=t)=false:=by simpa using h1
  exact k127
def jO (l:List Int):Bool:=decide (l.length<=16)&&l.all qM
def kB (gs:List Grp):Bool:=decide (gs.length<=16)&&gs.all (fun g=>jO g.2)
theorem sK {α:Type}{p:α->Bool}{ts:List α}{i:Nat}{x:α}(h:ts[i]? = some x):(ts.take (i+1)).all p=((ts.take i).all p&&p x):=by
 rw[List.take_add_one,h,List.all_append]
 simp
theorem gHj {α:Type}{p:α->Bool}{ts:List α}{i:Nat}{x:α}(h:ts[i]? = some x)(hp:p x=false):ts.all p=false:=by
 exact k119
theorem gAq (a:Option Addr)(len cap:Nat)(gs:List Grp)(w:World)(h:iS w a len gs) :
  Calls Tryz.prog 144 #[.slice a len cap] w fun e w' => e=.returned (.bool (kB gs))/\Below w.heap.size w w' := by
 obtain⟨hl,hz,_⟩:=id h
 obtain⟨R,hR⟩:∃R,kB gs=R:=⟨_,rfl⟩
 rw[hR]
 have HR:Hid (kB gs=R):=hR
 clear hR
 have HT:Hid (∀t W,Calls Tryz.prog 163 #[.int .i64 t] W fun e w' => e=.returned (.bool (qM t))/\w' = W):=fun t W=>gBf t W
 by_cases hlen:len<=16
 ·have hn:¬((16:Int)<(len:Int)):=by omega
  go_enter Tryz.func144,Tryz.ntmps144;go_wp2
  go_loopw [12] (fun i w' => ∃j:Nat,j<=len/\i=.int .i64 (j:Int)/\(gs.take j).all (fun g=>jO g.2)=true/\Below w.heap.size w w') (fun i _=>len - (intOf i).toNat)
  case atStart=>exact⟨0,oo,rfl,rfl,zzd _ _⟩
  case round=>
   obtain⟨i,hi,rfl,hT,hB⟩:=hrel
   by_cases hlt:i<len
   ·obtain⟨b,o,g,a', len', cap', rfl,hg,hI,hc⟩:=h.at hlt
    obtain⟨c0,c1⟩:=hc wr hB;obtain⟨hl2,hz2,_⟩:=id hI;have hst:(gs.take (i+1)).all (fun g=>jO g.2)=jO g.2:=by rw[sK hg,hT,Bool.true_and]
    have hno:jO g.2=false->R=false:=fun e=>by
     rw[<-HR.out];unfold kB;rw[gHj hg e,Bool.and_false]
    have HST:Hid ((gs.take (i+1)).all (fun g=>jO g.2)=jO g.2):=hst;have HNO:Hid (jO g.2=false->R=false):=hno;obtain⟨nm,zs⟩:=g;simp only at hI hl2 HST HNO c0;have HB0:Hid (∀o,Below w.heap.size w (wr.alloc o)):=fun o=>hB.alloc hB.size o
    have hBI:Hid (∀W,Below w.heap.size w W->∀i,i<len' -> ∃b o x,a' = some ⟨b,o,none⟩/\zs[i]? = some x/\W.cell? ⟨b,o+i,none⟩=some (.int .i64 x)):=fun W hW i hi=>by
     obtain⟨b,o,x,h1,h2,h3⟩:=hI.at hi;exact⟨b,o,x,h1,h2,h3 W hW⟩
    clear hc hI hst hno hg hT
    by_cases hlen2:len' <= 16
    ·have hn2:¬((16:Int)<(len' : Int)):=by omega
     go_wp2
     go_loopw [23] (fun i2 w' => ∃j:Nat,j<=len' /\ i2=.int .i64 (j:Int)/\(zs.take j).all qM=true/\w' = (wr.alloc (.cells #[.string nm,.slice a' len' cap'] 63))) (fun i2 _=>len' - (intOf i2).toNat)
     case atStart=>exact⟨0,oo,rfl,rfl,rfl⟩
     case round=>
      obtain⟨j,hj,rfl,hT2,rfl⟩:=hrel
      by_cases hlt2:j<len'
      ·obtain⟨b2,o2,x,rfl,hx,hc2⟩:=hBI.out (wr.alloc (.cells #[.string nm,.slice a' len' cap'] 63)) (HB0.out _) j hlt2
       (have HS2:Hid ((zs.take (j+1)).all qM=qM x):=by show _=_;rw[sK hx,hT2,Bool.true_and]);(have HN2:Hid (qM x=false->R=false):=fun e=>HNO.out (by unfold jO;rw[gHj hx e,Bool.and_false]));(have HTx:=fun W=>HT.out x W);clear hx hT2;generalize qM x=q at *;cases q with
       | true=>
        (go_wp2_with fail);refine(HTx _).mono ?_;rintro e W ⟨rfl,hW⟩;rw[hW];go_wp2
        go_roundw
        case rel=>exact⟨j+1,oo,rfl,HS2.out,by first | rfl | trivial⟩
        case measure=>simp[intOf];omega
       | false=>
        have HF:Hid (R=false):=HN2.out rfl;clear HN2;(go_wp2_with fail);refine(HTx _).mono ?_;rintro e W ⟨rfl,hW⟩;rw[hW];go_wp2;go_ret;exact⟨by rw[HF.out];rfl,HB0.out _⟩
      ·obtain rfl:j=len' := by omega
       have HF:Hid (jO zs=true):=by
        show _=_
        rw[zzm (Nat.le_of_eq hl2)] at hT2;unfold jO;rw[hT2,hl2];simpa using hlen2
       clear hT2;go_wp2
       go_roundw
       case rel=>exact⟨i+1,oo,rfl,by rw[HST.out,HF.out],HB0.out _⟩
       case measure=>simp[intOf];omega
    ·have hn2:(16:Int)<(len' : Int):=by omega
     have HF:Hid (R=false):=HNO.out (by unfold jO;rw[hl2];simp;omega);go_wp2;go_ret;exact⟨by rw[HF.out];rfl,HB0.out _⟩
   ·obtain rfl:i=len:=by omega
    have HF:Hid (R=true):=by
     show _=_
     rw[<-HR.out];rw[zzm (Nat.le_of_eq hl)] at hT;unfold kB;rw[hT,hl];simpa using hlen
    clear hT h;go_wp2;go_ret;exact⟨by rw[HF.out];rfl,hB⟩
 ·have hn:(16:Int)<(len:Int):=by omega
  have HF:Hid (R=false):=by
   show _=_
   rw[<-HR.out];unfold kB;rw[hl]
   simp
   omega
  clear h;go_enter Tryz.func144,Tryz.ntmps144;go_wp2;go_ret;exact⟨by rw[HF.out];rfl,zzd _ _⟩
def pK (l:List Int):Nat:=l.foldl (fun m t=>m ||| 2 ^ t.toNat) 0
theorem gOq (l:List Int)(t:Int):pK (l++[t])=pK l ||| 2 ^ t.toNat:=by unfold pK;rw[List.foldl_append];rfl
theorem gSa (t:Int)(h:t<16):2 ^ t.toNat<65536:=by
 have:t.toNat<16:=by omega
 exact Nat.pow_lt_pow_right (by decide) this
theorem gZh (t:Int)(h:t<16):IntKind.u16.wrap ((2:Int) ^ t.toNat)=((2 ^ t.toNat:Nat):Int):=by
 have h1:=gSa t h
 rw[show ((2:Int) ^ t.toNat)=((2 ^ t.toNat:Nat):Int) from by simp]
 generalize 2 ^ t.toNat=m at *
 show ((m:Int) % 65536)=_
 omega
theorem gIx (l:List Int)(h:l.all qM=true):pK l<65536:=by
 have key:∀(l:List Int) (m:Nat),m<65536->l.all qM=true->l.foldl (fun m t=>m ||| 2 ^ t.toNat) m<65536:=by
  intro l
  induction l with
  | nil=>intro m hm _;exact hm
  | cons t r ih=>
   intro m hm hl;rw[List.all_cons,Bool.and_eq_true] at hl;rw[List.foldl_cons];refine ih _ ?_ hl.2
   have ht:t<16:=by
    have:=hl.1
    unfold qM at this;simp at this;exact this.2
   exact Nat.or_lt_two_pow (n:=16) hm (gSa t ht)
 exact key l 0 (by decide) h
def kD:List Grp->ByteArray->Nat
 | [],_=>0
 | g::r,s=>if (g.1.toList==s.toList)=true then pK g.2 else kD r s
theorem hBm:∀(gs:List Grp) (s:ByteArray) (i:Nat) (g:Grp),gs[i]? = some g->(∀x∈gs.take i,(x.1.toList==s.toList)=false)->(g.1.toList==s.toList)=true->kD gs s=pK g.2:=by
 intro gs
 induction gs with
 | nil=>intro s i g h;simp at h
 | cons y r ih=>
  intro s i g h hn he;rw[kD];cases i with
  | zero=>
   (obtain rfl:y=g:=by simpa using h);rw[if_pos he]
  | succ i=>
   have hy:=hn y (by simp);rw[if_neg (by rw[hy];simp)];exact ih s i g (by simpa using h) (fun x hx=>hn x (by simp;exact .inr hx)) he
theorem gSp (s:ByteArray):∀(gs:List Grp),(∀x∈gs,(x.1.toList==s.toList)=false)->kD gs s=0:=by
 intro gs
 induction gs with
 | nil=>intro _;rfl
 | cons y r ih=>
  intro h;rw[kD,if_neg (by rw[h y (zzg ..)];simp)];exact ih (fun x hx=>h x (zzk _ hx))
theorem gOr (gs:List Grp)(hr:kB gs=true)(s:ByteArray):kD gs s<65536:=by
 unfold kB at hr
 rw[Bool.and_eq_true] at hr
 have h:=hr.2
 clear hr
 induction gs with
 | nil=>show 0<65536;decide
 | cons y r ih=>
  rw[List.all_cons,Bool.and_eq_true] at h;rw[kD]
  split
  ·refine gIx _ ?_
   have:=h.1
   unfold jO at this;rw[Bool.and_eq_true] at this;exact this.2
  ·exact ih h.2
theorem k104{p:Prop}(h:p:=by
  intro x hx;rw[List.take_add_one,hg] at hx;rcases List.mem_append.1 hx with hx | hx
  ·exact hT x hx
  ·simp at hx
   rw[hx];exact he
  ):p:=h
theorem yW (s:ByteArray)(a:Option Addr)(len cap:Nat)(gs:List Grp)(w:World)(h:iS w a len gs)(hr:kB gs=true) :
  Calls Tryz.prog 147 #[.string s,.slice a len cap] w fun e w' => e=.returned (.int .u16 (kD gs s:Int))/\Below w.heap.size w w' := by
 obtain⟨hl,hz,_⟩:=id h
 obtain⟨R,hR⟩:∃R,kD gs s=R:=⟨_,rfl⟩
 rw[hR]
 have HR:Hid (kD gs s=R):=hR
 clear hR
 have hlen:len<=16:=by
  unfold kB at hr;rw[Bool.and_eq_true,hl] at hr;exact of_decide_eq_true hr.1
 have hgr:∀g∈gs,jO g.2=true:=by
  unfold kB at hr;rw[Bool.and_eq_true] at hr;exact List.all_eq_true.1 hr.2
 clear hr
 go_enter Tryz.func147,Tryz.ntmps147
 go_wp2
 go_loopw [12] (fun i w' => ∃j:Nat,j<=len/\i=.int .i64 (j:Int)/\(∀x∈gs.take j,(x.1.toList==s.toList)=false)/\Below w.heap.size w w') (fun i _=>len - (intOf i).toNat)
 case atStart=>exact⟨0,oo,rfl,by simp,zzd _ _⟩
 case round=>
  obtain⟨i,hi,rfl,hT,hB⟩:=hrel
  by_cases hlt:i<len
  ·obtain⟨b,o,g,a', len', cap', rfl,hg,hI,hc⟩:=h.at hlt
   obtain⟨c0,c1⟩:=hc wr hB;obtain⟨hl2,hz2,_⟩:=id hI;have hrt:=hgr g (zzj hg);obtain⟨nm,zs⟩:=g;simp only at hI hl2 c0 hrt;(have HB0:Hid (∀o,Below w.heap.size w (wr.alloc o)):=fun o=>hB.alloc hB.size o);cases he:(nm.toList==s.toList) with
   | false=>
    have HN:Hid (∀x∈gs.take (i+1),(x.1.toList==s.toList)=false):=by
     exact k104
    clear hc hI hg hT hgr h hrt;go_wp2
    go_roundw
    case rel=>exact⟨i+1,oo,rfl,HN.out,HB0.out _⟩
    case measure=>simp[intOf];omega
   | true=>
    have HM:Hid (R=pK zs):=by
     show _=_
     rw[<-HR.out];exact hBm gs s i (nm,zs) hg hT he
    have hlen2:len' <= 16/\zs.all qM=true:=by
     unfold jO at hrt;rw[Bool.and_eq_true,hl2] at hrt;exact⟨of_decide_eq_true hrt.1,hrt.2⟩
    have hty:Hid (∀(i:Nat) (x:Int),zs[i]? = some x->0<=x/\x<16):=fun i x hx=>by
     have:=List.all_eq_true.1 hlen2.2 x (zzj hx)
     unfold qM at this;simpa using this
    have hml:Hid (∀j,pK (zs.take j)<65536):=fun j=>gIx _ (by
     rw[List.all_eq_true];intro x hx
     exact List.all_eq_true.1 hlen2.2 x (List.mem_of_mem_take hx))
    have hlen3:=hlen2.1
    have hBI:Hid (∀W,Below w.heap.size w W->∀i:Nat,i<len' -> ∃b o x,a' = some ⟨b,o,none⟩/\zs[i]? = some x/\W.cell? ⟨b,o+i,none⟩=some (.int .i64 x)):=fun W hW i hi=>by
     obtain⟨b,o,x,h1,h2,h3⟩:=hI.at hi;exact⟨b,o,x,h1,h2,h3 W hW⟩
    clear hc hI hg hT hgr h hrt hlen2;go_wp2
    go_loopw [7,23] (fun m i2 w' => ∃j:Nat,j<=len' /\ i2=.int .i64 (j:Int)/\m=.int .u16 (pK (zs.take j):Int)/\w' = (wr.alloc (.cells #[.string nm,.slice a' len' cap'] 63))) (fun _ i2 _=>len' - (intOf i2).toNat)
    case atStart=>exact⟨0,oo,rfl,rfl,rfl⟩
    case round=>
     obtain⟨j,hj,rfl,rfl,rfl⟩:=hrel;have hm:=hml.out j
     by_cases hlt2:j<len'
     ·obtain⟨b2,o2,x,rfl,hx,hc2⟩:=hBI.out (wr.alloc (.cells #[.string nm,.slice a' len' cap'] 63)) (HB0.out _) j hlt2
      obtain⟨x0,x1⟩:=hty.out j x hx;(have HS2:Hid (pK (zs.take (j+1))=pK (zs.take j) ||| 2 ^ x.toNat):=by show _=_;rw[List.take_add_one,hx];exact gOq _ _);have hor:=u16_or_nat (pK (zs.take j)) (2 ^ x.toNat) hm (gSa x x1);clear hx;generalize pK (zs.take j)=m at *;go_wp2
      go_roundw
      case rel=>exact⟨j+1,oo,rfl,by rw[gZh x x1,hor,HS2.out],by first | rfl | trivial⟩
      case measure=>simp[intOf];omega
     ·obtain rfl:j=len' := by omega
      rw[zzm (Nat.le_of_eq hl2),<-HM.out];go_wp2;go_ret;exact⟨rfl,HB0.out _⟩
  ·obtain rfl:i=len:=by omega
   have HF:Hid (R=0):=by
    show _=_
    rw[<-HR.out];rw[zzm (Nat.le_of_eq hl)] at hT;exact gSp s gs hT
   clear hT h hgr;go_wp2;go_ret;exact⟨by rw[HF.out];rfl,hB⟩
end Go.Proofs.YtjkebndkeamijaaGreatDoor
