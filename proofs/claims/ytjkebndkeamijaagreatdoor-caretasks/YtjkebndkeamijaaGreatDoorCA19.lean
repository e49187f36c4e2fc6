/-
  PROVED HERE: what the texts DARightN, DAKindsF, DANewF, DAHouseT, DATok say.
-/
import Derived.Test.YtjkebndkeamijaaGreatDoorCA18
set_option maxRecDepth 100000
set_option maxHeartbeats 800000
namespace Go.Proofs.YtjkebndkeamijaaGreatDoor
open Go.RowKit
theorem gFs (nm:ByteArray)(ta:Option Addr)(tl tc:Nat)(b:Nat)(on:ByteArray)(w:World)(hb:w.cell? ⟨b,0,none⟩=some (.string on)) :
  Calls Tryz.prog 89 #[.agg #[.string nm,.slice ta tl tc],.pointer (some ⟨b,0,none⟩)] w fun e w' => e=.returned (.bool (nm.toList==on.toList))/\Below w.heap.size w w' := by
 have hlt:=World.block_lt_of_cell? w _ hb
 have hB:Below w.heap.size w (w.alloc (.cells #[.string nm,.slice ta tl tc] 63)):=(zzd _ w).alloc (zzb _) _
 have h2:(w.alloc (.cells #[.string nm,.slice ta tl tc] 63)).cell? ⟨b,0,none⟩=some (.string on):=(hB.cell (p:=⟨b,0,none⟩) hlt).trans hb
 have HB:Hid (Below w.heap.size w (w.alloc (.cells #[.string nm,.slice ta tl tc] 63))):=hB
 clear hB hb
 go_enter Tryz.func89,Tryz.ntmps89
 go_wp2
 go_ret
 exact⟨rfl,HB.out⟩
def vJ (gs:List Grp)(n:Nat)(on:ByteArray):Prop:=∃(j:Nat) (x:Grp),j<n/\gs[j]? = some x/\(x.1.toList==on.toList)=true
theorem gLr (g o n c:Nat)(len:Nat)(gs:List Grp)(b:Nat)(on:ByteArray)(w:World)(hG:iS w (some ⟨g,o,none⟩) len gs)(hn:n<=len)(hlen:len<=1000000)(hb:w.cell? ⟨b,0,none⟩=some (.string on)) :
  Calls Tryz.prog 123 #[.slice (some ⟨g,o,none⟩) n c,.func (.func 89) #[] #[.pointer (some ⟨b,0,none⟩)]] w fun e w' => ∃i:Int,e=.returned (.int .i64 i)/\(0<=i↔vJ gs n on)/\Below w.heap.size w w' := by
 have hbl:=World.block_lt_of_cell? w _ hb
 have HX:Hid (∀(X:World) (j:Nat),Below w.heap.size w X->j<n->∃x ta tl tc,gs[j]? = some x/\X.cell? ⟨g,o+j * 2,none⟩=some (.string x.1)/\X.cell? ⟨g,o+j * 2+1,none⟩=some (.slice ta tl tc)/\Calls Tryz.prog 89 #[.agg #[.string x.1,.slice ta tl tc],.pointer (some ⟨b,0,none⟩)] X fun e w' => e=.returned (.bool (x.1.toList==on.toList))/\Below X.heap.size X w'):=fun X j hX hj=>by
  obtain⟨b', o', x,ta,tl,tc,h1,h2,h3,h4⟩:=hG.at (i:=j) oo;(injection h1 with h1);(injection h1 with e1 e2);subst e1 e2;obtain⟨h5,h6⟩:=h4 X hX;exact⟨x,ta,tl,tc,h2,h5,h6,gFs _ _ _ _ b on X ((hX.cell (p:=⟨b,0,none⟩) hbl).trans hb)⟩
 have hni:(n:Int)<=1000000:=by omega
 clear hG hb hbl
 go_enter Tryz.func123,Tryz.ntmps123
 go_wp2
 go_loopg [8] (n+1) (fun gk v wr=>∃j:Nat,j<=n/\n<j+gk/\v=.int .i64 (j:Int)/\(∀(q:Nat) (x:Grp),q<j->gs[q]? = some x->(x.1.toList==on.toList)=false)/\Below w.heap.size w wr)
 case atStart=>exact⟨0,zzn _,oo,rfl,fun q x hq=>by omega,zzd _ _⟩
 case round=>
  obtain⟨j,hj,hgk,rfl,hT,hB⟩:=hrel
  by_cases hlt:j<n
  ·obtain⟨x,ta,tl,tc,hx,c0,c1,HC⟩:=HX.out wr j hB hlt
   (have hii:(j:Int)<(n:Int):=by omega);(have hj0:(0:Int)<=(j:Int):=by omega);(have hd:decide ((j:Int)<(n:Int))=true:=by simpa using hii);obtain⟨r,hr⟩:∃r,(x.1.toList==on.toList)=r:=⟨_,rfl⟩;rw[hr] at HC;have HB:Hid (gs[j]? = some x/\(x.1.toList==on.toList)=r/\(∀(q:Nat) (x:Grp),q<j->gs[q]? = some x->(x.1.toList==on.toList)=false)/\Below w.heap.size w wr):=⟨hx,hr,hT,hB⟩;clear hT hB hx HX hr;(go_wp2_with fail);refine HC.mono ?_;rintro e W1 ⟨rfl,hB1⟩;have HB1:Hid (Below w.heap.size w W1):=HB.out.2.2.2.trans (hB1.mono HB.out.2.2.2.size);clear hB1 HC;cases r with
   | true=>
    go_wp2;go_ret;exact⟨(j:Int),rfl,⟨fun _=>⟨j,x,hlt,HB.out.1,HB.out.2.1⟩,fun _=>by omega⟩,HB1.out⟩
   | false=>
    go_wp2
    go_roundg (n - j)
    case measure=>omega
    case rel=>exact⟨j+1,oo,oo,by first | rfl | go_num,fun q y hq hy=>by
     by_cases e:q=j
     ·subst e
      rw[HB.out.1] at hy;cases hy;exact HB.out.2.1
     ·exact HB.out.2.2.1 q y oo hy,HB1.out⟩
  ·obtain rfl:j=n:=by omega
   (have hd:decide ((j:Int)<(j:Int))=false:=by simp);have HB:Hid ((∀(q:Nat) (x:Grp),q<j->gs[q]? = some x->(x.1.toList==on.toList)=false)/\Below w.heap.size w wr):=⟨hT,hB⟩;clear hT hB HX;go_wp2;go_ret;exact⟨-1,rfl,⟨fun h=>by omega,fun ⟨q,x,h1,h2,h3⟩=>by rw[HB.out.1 q x h1 h2] at h3;cases h3⟩,HB.out.2⟩
theorem gEn (g o n c:Nat)(len:Nat)(gs:List Grp)(b:Nat)(on:ByteArray)(w:World)(hG:iS w (some ⟨g,o,none⟩) len gs)(hn:n<=len)(hlen:len<=1000000)(hb:w.cell? ⟨b,0,none⟩=some (.string on)) :
  Calls Tryz.prog 91 #[.slice (some ⟨g,o,none⟩) n c,.func (.func 89) #[] #[.pointer (some ⟨b,0,none⟩)]] w fun e w' => ∃r:Bool,e=.returned (.bool r)/\(r=true↔vJ gs n on)/\Below w.heap.size w w' := by
 have HF:=gLr g o n c len gs b on w hG hn hlen hb
 clear hG hb
 go_enter Tryz.func91,Tryz.ntmps91
 go_wp2_with fail
 refine HF.mono ?_
 rintro e W ⟨i,rfl,h1,h2⟩
 have HE:Hid ((0<=i↔vJ gs n on)/\Below w.heap.size w W):=⟨h1,h2⟩
 clear h1 h2 HF
 go_wp2
 go_ret
 exact⟨decide (0<=i),rfl,by rw[decide_eq_true_iff];exact HE.out.1,HE.out.2⟩
def pQ (gs:List Grp):Prop:=∀(i:Nat) (x:Grp),gs[i]? = some x->jJ x.1=true/\¬vJ gs i x.1
theorem gCh (g c:Nat)(len:Nat)(gs:List Grp)(w:World)(hG:iS w (some ⟨g,0,none⟩) len gs)(hlen:len<=1000000)(hc:len<=c)(hc2:c<=9223372036854775807)(hsz:∀x∈gs,x.1.size<=9223372036854775807) :
  Calls Tryz.prog 56 #[.slice (some ⟨g,0,none⟩) len c] w fun e w' => ∃r:Bool,e=.returned (.bool r)/\(r=true↔pQ gs)/\Below w.heap.size w w' := by
 have HX:Hid (∀(X:World) (j:Nat),Below w.heap.size w X->j<len->∃x ta tl tc,gs[j]? = some x/\X.cell? ⟨g,j * 2,none⟩=some (.string x.1)/\X.cell? ⟨g,j * 2+1,none⟩=some (.slice ta tl tc)/\x.1.size<=9223372036854775807):=fun X j hX hj=>by
  obtain⟨b', o', x,ta,tl,tc,h1,h2,h3,h4⟩:=hG.at (i:=j) hj;(injection h1 with h1);(injection h1 with e1 e2);subst e1 e2;obtain⟨h5,h6⟩:=h4 X hX;rw[Nat.zero_add] at h5 h6;exact⟨x,ta,tl,tc,h2,h5,h6,hsz x (zzj h2)⟩
 have HGC:Hid (∀(X:World) (j b cc:Nat) (on:ByteArray),Below w.heap.size w X->j<=len->X.cell? ⟨b,0,none⟩=some (.string on)->Calls Tryz.prog 91 #[.slice (some ⟨g,0,none⟩) j cc,.func (.func 89) #[] #[.pointer (some ⟨b,0,none⟩)]] X fun e w' => ∃r:Bool,e=.returned (.bool r)/\(r=true↔vJ gs j on)/\Below X.heap.size X w'):=fun X j b cc on hX hj hb=>gEn g 0 j cc len gs b on X (hG.below hX) hj hlen hb
 have HLL:Hid (gs.length=len):=hG.1
 have hli:(len:Int)<=1000000:=by omega
 have hlc:(len:Int)<=(c:Int):=by omega
 have hci:(c:Int)<=9223372036854775807:=by omega
 clear hG hsz
 go_enter Tryz.func56,Tryz.ntmps56
 go_wp2
 go_loopg [8] (len+1) (fun gk v wr=>∃j:Nat,j<=len/\len<j+gk/\v=.int .i64 (j:Int)/\(∀(i:Nat) (x:Grp),i<j->gs[i]? = some x->jJ x.1=true/\¬vJ gs i x.1)/\Below w.heap.size w wr)
 case atStart=>exact⟨0,zzn _,oo,rfl,fun q x hq=>by omega,zzd _ _⟩
 case round=>
  obtain⟨j,hj,hgk,rfl,hT,hB⟩:=hrel
  by_cases hlt:j<len
  ·obtain⟨x,ta,tl,tc,hx,c0,c1,hxs⟩:=HX.out wr j hB hlt
   (have hii:(j:Int)<(len:Int):=by omega);(have hj0:(0:Int)<=(j:Int):=by omega);(have hd:decide ((j:Int)<(len:Int))=true:=by simpa using hii);(have hjc:(j:Int)<=(c:Int):=by omega);(have hjcn:j<=c:=by omega);obtain⟨V0,hV0⟩:∃V0,V0=wr.alloc (.cells #[.string x.1,.slice ta tl tc] 63):=⟨_,rfl⟩;(have hBV:Below wr.heap.size wr V0:=by rw[hV0];exact(zzd _ wr).alloc (zzb _) _);(have m0:V0.heap[wr.heap.size]? = some (.cells #[.string x.1,.slice ta tl tc] 63 (0,0)):=by rw[hV0];exact World.alloc_heap_new wr _);have hlt0:wr.heap.size<V0.heap.size:=(zza.1 m0).1
   have HKS:Hid (∀X:World,Below V0.heap.size V0 X->X.cell? ⟨wr.heap.size,0,none⟩=some (.string x.1)):=fun X hX=>by
    have mX:=(hX.block _ hlt0).trans m0;exact cell_of_row X wr.heap.size 0 _ _ _ mX
   have HVB:Hid (Below w.heap.size w V0):=hB.trans (hBV.mono hB.size);have HNM:=gNd x.1 hxs V0;have HV0:Hid (wr.alloc (.cells #[.string x.1,.slice ta tl tc] 63)=V0):=hV0.symm;have HB:Hid (gs[j]? = some x/\(∀(i:Nat) (x:Grp),i<j->gs[i]? = some x->jJ x.1=true/\¬vJ gs i x.1)):=⟨hx,hT⟩;have k0:=HKS.out V0 (zzd _ _);obtain⟨r,hr⟩:∃r,jJ x.1=r:=⟨_,rfl⟩;rw[hr] at HNM;have HR:Hid (jJ x.1=r):=hr;clear hT hB hx HX hr hV0 m0 hlt0 hBV hxs;(go_wp2_with fail);rw[HV0.out];refine HNM.mono ?_;rintro e W1 ⟨rfl,hB1⟩;have HB1:Hid (Below w.heap.size w W1):=HVB.out.trans (hB1.mono HVB.out.size);have k1:=HKS.out W1 hB1;have HCC:=HGC.out W1 j wr.heap.size c x.1 HB1.out hj k1;clear hB1 HNM;cases r with
   | false=>
    clear HCC;go_wp2;go_ret
    exact⟨false,rfl,⟨fun h=>(by cases h),fun h=>by
     have:=(h j x HB.out.1).1
     rw[HR.out] at this
     cases this⟩,HB1.out⟩
   | true=>
    (go_wp2_with fail);refine HCC.mono ?_;rintro e W2 ⟨r2,rfl,hr2,hB2⟩;have HB2:Hid (Below w.heap.size w W2):=HB1.out.trans (hB2.mono HB1.out.size);have HR2:Hid (r2=true↔vJ gs j x.1):=hr2;clear hB2 hr2 HCC;cases r2 with
    | true=>
     go_wp2;go_ret;exact⟨false,rfl,⟨fun h=>(by cases h),fun h=>absurd (HR2.out.1 (by first | rfl | trivial)) (h j x HB.out.1).2⟩,HB2.out⟩
    | false=>
     go_wp2
     go_roundg (len - j)
     case measure=>omega
     case rel=>exact⟨j+1,oo,oo,by first | rfl | go_num,fun q y hq hy=>by
      by_cases e:q=j
      ·subst e
       rw[HB.out.1] at hy;cases hy;exact⟨HR.out,fun h=>by cases HR2.out.2 h⟩
      ·exact HB.out.2 q y oo hy,HB2.out⟩
  ·obtain rfl:j=len:=by omega
   (have hd:decide ((j:Int)<(j:Int))=false:=by simp);have HB:Hid (pQ gs/\Below w.heap.size w wr):=⟨fun i x hx=>hT i x (by have:=(zzc.1 hx).1;have:=HLL.out;omega) hx,hB⟩;clear hT hB HX;go_wp2;go_ret;exact⟨true,rfl,⟨fun _=>HB.out.1,fun _=>rfl⟩,HB.out.2⟩
theorem gHz (a:Option Addr)(len cap:Nat)(l:List gV)(w:World)(hl:rN w a len l)(hsz:len<=15) :
  Calls Tryz.prog 50 #[.slice a len cap] w fun e w' => ∃g c,e=.returned (.slice (some ⟨g,0,none⟩) (len+1) c)/\w'.ownsRow w.heap.size 81 10 (.slice (some ⟨g,0,none⟩) (len+1) c) (jT jC::l.map jT).length (kJ (jT jC::l.map jT))/\Below w.heap.size w w' := by
 have HS:Hid (∀(X:World) (i:Nat),Below w.heap.size w X->i<len->∃b o x,a=some ⟨b,o,none⟩/\l[i]? = some x/\nH X b (o+i * 7) x):=fun X i hX hi=>by
  obtain⟨b,o,x,h1,_,h2,h3⟩:=hl.at hi;exact⟨b,o,x,h1,h2,h3 X hX⟩
 have HLL:Hid (l.length=len):=hl.1
 have HB0:Hid (Below w.heap.size w (w.alloc (.cells (tA (jT jC)).toArray 81))):=(zzd _ w).alloc (zzb _) _
 have HO0:Hid ((w.alloc (.cells (tA (jT jC)).toArray 81)).ownsRow w.heap.size 81 10 (.slice (some ⟨w.heap.size,0,none⟩) 1 1) 1 (kJ [jT jC])):=⟨rfl,.inr ⟨w.heap.size,1,_,rfl,zzb _,World.alloc_heap_new w _,zzb _,by unfold maxLen;omega,rfl,rfl⟩⟩
 have hsi:(len:Int)<=15:=by omega
 clear hl
 go_enter Tryz.func50,Tryz.ntmps50
 go_wp2
 go_loopg [3,10] (len+1) (fun gk u v wr=>∃(i:Nat) (g c:Nat),i<=len/\len<i+gk/\u=.slice (some ⟨g,0,none⟩) (i+1) c/\v=.int .i64 (i:Int)/\wr.ownsRow w.heap.size 81 10 (.slice (some ⟨g,0,none⟩) (i+1) c) (jT jC::(l.take i).map jT).length (kJ (jT jC::(l.take i).map jT))/\Below w.heap.size w wr)
 case atStart=>exact⟨0,_,_,zzn _,oo,rfl,rfl,by rw[List.take_zero];exact HO0.out,HB0.out⟩
 case round=>
  obtain⟨i,g,c,hi,hgk,rfl,rfl,hown,hB⟩:=hrel;clear HO0 HB0
  by_cases hlt:i<len
  ·obtain⟨b,o,x,rfl,hx,c0,c1,c2,c3,c4,c5,c6⟩:=HS.out wr i hB hlt
   (have hii:(i:Int)<(len:Int):=by omega);(have hi0:(0:Int)<=(i:Int):=by omega);(have hd:decide ((i:Int)<(len:Int))=true:=by simpa using hii);have hB1:Below wr.heap.size wr (wr.alloc (.cells (gFg x).toArray 34)):=(zzd _ wr).alloc (zzb _) _;have hB2:Below wr.heap.size wr ((wr.alloc (.cells (gFg x).toArray 34)).alloc (.cells (tA (jT x)).toArray 81)):=hB1.alloc hB1.size _;(have hlenk:(jT jC::(l.take i).map jT).length=i+1:=by rw[List.length_cons,List.length_map,List.length_take];have:=HLL.out;omega);obtain⟨g', cap', W1,hrun,hown', hBW⟩:=hCf _ w.heap.size _ _ (gF hown fun k hk=>hB2.block k (gC hown hk).1) (jT x) oo (by have:=hB2.size;have:=hB.size;omega) (wr.alloc (.cells (gFg x).toArray 34)).heap.size 1 (hDu (wr.alloc (.cells (gFg x).toArray 34)) _ _);have htk:l.take (i+1)=l.take i++[x]:=by rw[List.take_add_one,hx];rfl
   have HN:Hid (W1.ownsRow w.heap.size 81 10 (.slice (some ⟨g', 0,none⟩) (i+1+1) cap') (jT jC::(l.take (i+1)).map jT).length (kJ (jT jC::(l.take (i+1)).map jT))/\Below w.heap.size w W1):=by
    refine⟨?_,(hB.trans (hB2.mono hB.size)).trans hBW⟩;rw[htk,List.map_append,List.map_singleton];rw[hlenk] at hown';exact hown'
   rw[hlenk,World.size_alloc] at hrun;have HRUN:Hid ((Builtin.append_ #[84,84] 84 #[.slice (some ⟨g,0,none⟩) (i+1) c,.slice (some ⟨wr.heap.size+1,0,none⟩) 1 1]).run Tryz.prog ((wr.alloc (.cells #[.string x.name,.string x.expr,.bool x.leaf,.int .i64 x.marks,.int .i64 x.least,.int .i64 x.most,.bool x.lines] 34)).alloc (.cells #[.string x.name,.string x.expr,.bool x.leaf,.int .i64 x.marks,.int .i64 x.least,.int .i64 x.most,.bool x.lines,.int .i64 0,.string ⟨#[]⟩,.slice none 0 0] 81))=.ok (.slice (some ⟨g', 0,none⟩) (i+1+1) cap') W1):=hrun;clear hown hB hB1 hB2 hBW hown' hrun htk HS hlenk hx
   go_wp2_with (first
    | (at_builtin;trace_state;refine iW rfl (.tmp 14) (.tmp 17) 84 rfl _ _ _ _ rfl rfl HRUN.out ?_)
    | fail)
   go_roundg (len - i)
   case measure=>omega
   case rel=>exact⟨i+1,g', cap', by omega,oo,rfl,by first | rfl | go_num,HN.out⟩
  ·obtain rfl:i=len:=by omega
   have hd:decide ((i:Int)<(i:Int))=false:=by simp
   have HN:Hid (wr.ownsRow w.heap.size 81 10 (.slice (some ⟨g,0,none⟩) (i+1) c) (jT jC::l.map jT).length (kJ (jT jC::l.map jT))/\Below w.heap.size w wr):=by
    rw[zzm (by have:=HLL.out;omega)] at hown;exact⟨hown,hB⟩
   clear hown hB HS;go_wp2;go_ret;exact⟨g,c,rfl,HN.out⟩
noncomputable def rI (whole:ByteArray)(l:List gV)(gs:List Grp):Int :=
 open Classical in
 if 15<l.length\/16<gs.length then 1
 else if l.all okS=true/\pQ (gJ l gs) then kL (whole::l.map (·.expr)) (gJ l gs)
 else 1
structure qP (w:World) (B g c ng nc:Nat) (ks:List gN) (gs:List Grp) (ts:List (DataW Unit)):Prop where
 sch:w.heap[B]? = some (.cells #[.slice (some ⟨g,0,none⟩) ks.length c,.slice (some ⟨ng,0,none⟩) gs.length nc] 86 (0,0))
 glt:g<w.heap.size
 kinds:∀(i:Nat) (x:gN),ks[i]? = some x->nH w g (i * 10) x.1/\w.cell? ⟨g,i * 10+7,none⟩=some (.int .i64 x.2.1)/\w.cell? ⟨g,i * 10+8,none⟩=some (.string x.2.2.1)/\w.cell? ⟨g,i * 10+9,none⟩=some (.slice x.2.2.2.1 x.2.2.2.2.1 x.2.2.2.2.2)
 names:iS w (some ⟨ng,0,none⟩) gs.length gs
 len:ts.length=ks.length
 cap:ks.length<=c/\c<=9223372036854775807/\ks.length<=16
 trees:∀(i:Nat) (x:gN) (t:DataW Unit),ks[i]? = some x->ts[i]? = some t->Ex w 200 t (jI x.2)/\oG 200 t/\chk 200 t gs=0
theorem qP.below {w w' : World}{B g c ng nc:Nat}{ks:List gN}{gs:List Grp}{ts:List (DataW Unit)}(h:qP w B g c ng nc ks gs ts)(hB:Below w.heap.size w w'):qP w' B g c ng nc ks gs ts:=by
 have e:∀k,w'.cell? ⟨g,k,none⟩=w.cell? ⟨g,k,none⟩:=fun k=>zzi (hB.block g h.glt)
 refine⟨(hB.block B (zza.1 h.sch).1).trans h.sch,zzl h.glt hB.size,fun i x hx=>?_,h.names.below hB,h.len,h.cap,fun i x t hx ht=>?_⟩
 ·obtain⟨h1,h2,h3,h4⟩:=h.kinds i x hx
  exact⟨h1.same (hB.block g h.glt),by rw[e];exact h2,by rw[e];exact h3,by rw[e];exact h4⟩
 ·obtain⟨h1,h2,h3⟩:=h.trees i x t hx ht
  exact⟨Ex.below hB _ _ _ h1,h2,h3⟩
def gS (whole:ByteArray)(l:List gV):List (DataW Unit):=(whole::l.map (·.expr)).map gO
def vV (w:World)(B:Nat)(whole:ByteArray)(l:List gV)(gs:List Grp):Prop:=∃g c ng nc ks,qP w B g c ng nc ks (gJ l gs) (gS whole l)/\ks.map (·.1)=jC::l
theorem vV.below {w w' : World}{B:Nat}{whole:ByteArray}{l:List gV}{gs:List Grp}(h:vV w B whole l gs)(hB:Below w.heap.size w w'):vV w' B whole l gs:=by
 obtain⟨g,c,ng,nc,ks,h1,h2⟩:=h
 exact⟨g,c,ng,nc,ks,h1.below hB,h2⟩
theorem zU {s:ByteArray}{gs:List Grp}(h:kI s gs=0):chk 200 (gO s) gs=0:=by
 unfold kI at h
 split at h
 ·rename_i h1
  exact absurd h h1
 ·exact h
theorem RdI.made {base:Nat}{w0:World}{B g c ng nc:Nat}{xs:List mD}{whole:ByteArray}{l:List gV}{gs:List Grp}{wr:World}{ks:List gN}(h:RdI base w0 B g c ng nc xs (whole::l.map (·.expr)) (jC::l) wr ks ks.length)(hn:xs.map iP=gJ l gs)(hl:l.length<=15)(hxl:xs.length<=1000):vV wr B whole l gs:=by
 have hkl:ks.length=l.length+1:=by have:=congrArg List.length h.spec;rw[List.length_map,List.length_cons] at this;exact this
 have hnl:(gJ l gs).length=xs.length:=by rw[<-hn,List.length_map]
 obtain⟨hgl,_⟩:=gC h.row (g:=g) rfl
 have hcap:ks.length<=c/\c<=maxLen:=by
  rcases h.row.2 with ⟨e,_⟩ | ⟨g', cap,cur,e,_,_,h1,h2,_⟩
  ·cases e
  ·injection e with _ _ e3
   subst e3;exact⟨h1,h2⟩
 refine⟨g,c,ng,nc,ks,⟨by rw[hnl];exact h.sch,hgl,fun i x hx=>?_,by rw[hnl,<-hn];exact h.nms.groups rfl oo,by unfold gS;simp;omega,⟨hcap.1,by have:=hcap.2;unfold maxLen at this;omega,oo⟩,fun i x t hx ht=>?_⟩,h.spec⟩
 ·obtain⟨g', cap', e,hc⟩:=gY h.row oo
  (injection e with e1);(injection e1 with e1);(injection e1 with e1);subst e1;exact⟨(gBe h.row).2 i x hx,hc _ _ (pE (j:=7) hx rfl),hc _ _ (pE (j:=8) hx rfl),hc _ _ (pE (j:=9) hx rfl)⟩
 ·unfold gS at ht
  rw[List.getElem?_map] at ht;cases hs:(whole::l.map (·.expr))[i]? with
  | none=>rw[hs] at ht;cases ht
  | some s=>
   rw[hs] at ht;cases ht;have hi:i<ks.length:=(zzc.1 hx).1;refine⟨ExA.ex _ _ _ (h.tree i x s hi hx hs),uN s,?_⟩
   have:=zU (h.zero i s hi hs)
   rw[hn] at this;exact this
theorem Nms.base {b b' : Nat}{W:World}{v:Value}{xs:List mD}(h:Nms b W v xs)(hb:b' <= b):Nms b' W v xs:=by
 refine⟨⟨h.row.1,?_⟩,h.ok⟩
 rcases h.row.2 with h2 | ⟨g,cap,cur,h1,h2,h3⟩
 ·exact .inl h2
 ·exact .inr ⟨g,cap,cur,h1,Nat.le_trans hb h2,h3⟩
theorem gYt (l:List gV)(whole:ByteArray):∀(j:Nat) (x:gN),1<=j->(jT jC::l.map jT)[j]? = some x->(whole::l.map (·.expr))[j]? = some x.1.expr:=by
 intro j x hj hx
 obtain⟨k,rfl⟩:∃k,j=k+1:=⟨j - 1,oo⟩
 rw[List.getElem?_cons_succ,List.getElem?_map] at hx ⊢
 cases hq:l[k]? with
 | none=>rw[hq] at hx;cases hx
 | some y=>
  rw[hq] at hx;cases hx
  rfl
theorem hDh (l:List gV):(((jT jC::l.map jT).drop 1).all fun x=>okS x.1)=l.all okS:=by
 rw[List.drop_succ_cons,List.drop_zero,List.all_map]
 rfl
theorem k69{p:Prop}(h:p:=by
  have HR:Hid (Below w.heap.size w w):=zzd _ _;clear hl hG hls hgs hE;go_enter Tryz.func16,Tryz.ntmps16;go_wp2;go_ret2;exact⟨HR.out,.inl ⟨by rw[HN.out];decide,by rw[HN.out];rfl⟩⟩
  ):p:=h
theorem gWz (whole:ByteArray)(a:Option Addr)(len cap:Nat)(l:List gV)(ga:Option Addr)(gl gc:Nat)(gs:List Grp)(w:World)(hw:whole.size<=9223372036854775807)(hl:rN w a len l)(hG:iS w ga gl gs)(hls:∀x∈l,x.name.size<=9223372036854775807/\x.expr.size<=9223372036854775807)(hgs:∀x∈gs,x.1.size<=9223372036854775807/\x.2.length<=1500000)(hE:ETy w) :
  Calls Tryz.prog 16 #[.string whole,.slice a len cap,.slice ga gl gc] w fun e w' => Below w.heap.size w w' /\ ((rI whole l gs≠0/\e=.returned (.tuple #[.pointer none,.int .i64 (rI whole l gs)]))\/(rI whole l gs=0/\∃B,e=.returned (.tuple #[.pointer (some ⟨B,0,none⟩),.int .i64 0])/\vV w' B whole l gs)):=by
 have hll:=hl.1
 have hgl:=hG.1
 have hl63:=hl.2.1
 have hg63:=hG.2.1
 have hli:(len:Int)<=9223372036854775807:=by omega
 have hgi:(gl:Int)<=9223372036854775807:=by omega
 by_cases h1:15<len
 ·have HN:Hid (rI whole l gs=1):=by
   show rI whole l gs=1
   unfold rI;rw[if_pos (.inl oo)]
  have hd:decide ((15:Int)<(len:Int))=true:=by simp;omega
  exact k69
 have hd1:decide ((15:Int)<(len:Int))=false:=by simp;omega
 by_cases h2:16<gl
 ·have HN:Hid (rI whole l gs=1):=by
   show rI whole l gs=1
   unfold rI;rw[if_pos (.inr oo)]
  have hd:decide ((16:Int)<(gl:Int))=true:=by simp;omega
  exact k69
 have hd2:decide ((16:Int)<(gl:Int))=false:=by simp;omega
 have hnE:rI whole l gs=(open Classical in if l.all okS=true/\pQ (gJ l gs) then kL (whole::l.map (·.expr)) (gJ l gs) else 1):=by
  unfold rI;rw[if_neg oo]
 have HKO:=Hid.mk_ (gHz a len cap l w hl oo)
 have HNO:Hid (∀X,Below w.heap.size w X->Calls Tryz.prog 51 #[.slice a len cap,.slice ga gl gc] X fun e w' => ∃(g c:Nat) (xs:List mD),e=.returned (.slice (some ⟨g,0,none⟩) xs.length c)/\Nms X.heap.size w' (.slice (some ⟨g,0,none⟩) xs.length c) xs/\xs.map iP=gJ l gs/\Below X.heap.size X w'):=fun X hX=>gHu a len cap l ga gl gc gs X (hl.below hX) (hG.below hX) oo oo (fun x hx=>(hgs x hx).2)
 have hsz:∀x∈gJ l gs,x.1.size<=9223372036854775807:=by
  intro x hx;unfold gJ at hx;rcases List.mem_cons.1 hx with rfl | hx
  ·decide
  ·rcases List.mem_append.1 hx with hx | hx
   ·have:∀(l:List gV) (i:Nat) (x:Grp),x∈jE i l->∃s∈l,x.1=s.name:=by
     intro l
     induction l with
     | nil=>intro i x hx;cases hx
     | cons s r ih=>
      intro i x hx;rw[jE] at hx;rcases List.mem_cons.1 hx with rfl | hx
      ·exact⟨s,zzg ..,rfl⟩
      ·obtain⟨q,h1,h2⟩:=ih _ _ hx
       exact⟨q,zzk _ h1,h2⟩
    obtain⟨s,h1,h2⟩:=this l 0 x hx;rw[h2];exact(hls s h1).1
   ·exact(hgs x hx).1
 have hnl:(gJ l gs).length<=100:=by
  unfold gJ;rw[List.length_cons,List.length_append,nB];omega
 -- what comes behind namesOf
 have HALL:Hid (∀(X1 X2:World) (g c ng nc:Nat) (xs:List mD),X1.ownsRow w.heap.size 81 10 (.slice (some ⟨g,0,none⟩) (len+1) c) (jT jC::l.map jT).length (kJ (jT jC::l.map jT))->Below w.heap.size w X1->Nms X1.heap.size X2 (.slice (some ⟨ng,0,none⟩) xs.length nc) xs->xs.map iP=gJ l gs->Below X1.heap.size X1 X2->∀X3 X4,X3=X2.alloc (.cells #[.slice (some ⟨g,0,none⟩) (len+1) c,.slice (some ⟨ng,0,none⟩) xs.length nc] 86)->X4=X3.alloc (.cells #[.func (.func 53) #[] #[],.func (.func 54) #[] #[],.func (.func 55) #[] #[]] 91) →
   Below w.heap.size w X4/\(∀X,Below X4.heap.size X4 X->X.cell? ⟨X2.heap.size,0,none⟩=some (.slice (some ⟨g,0,none⟩) (len+1) c)/\X.cell? ⟨X2.heap.size,1,none⟩=some (.slice (some ⟨ng,0,none⟩) xs.length nc))/\Calls Tryz.prog 52 #[.pointer (some ⟨X2.heap.size,0,none⟩),.slice (some ⟨X3.heap.size,0,none⟩) 3 3] X4 (fun e w' => e=.returned (.bool (l.all okS))/\Below X4.heap.size X4 w') ∧
   (∀X,Below X4.heap.size X4 X->Calls Tryz.prog 56 #[.slice (some ⟨ng,0,none⟩) xs.length nc] X fun e w' => ∃r:Bool,e=.returned (.bool r)/\(r=true↔pQ (gJ l gs))/\Below X.heap.size X w') ∧
   (∀X,Below X4.heap.size X4 X->Calls Tryz.prog 57 #[.pointer (some ⟨X2.heap.size,0,none⟩),.string whole] X fun e w' => e=.returned (.int .i64 (kL (whole::l.map (·.expr)) (gJ l gs)))/\Below w.heap.size w w' /\ (kL (whole::l.map (·.expr)) (gJ l gs)=0->vV w' X2.heap.size whole l gs))):=by
  intro X1 X2 g c ng nc xs hown hB1 hnm hxn hB2 X3 X4 hX3 hX4;(have hxl:xs.length=(gJ l gs).length:=by rw[<-hxn,List.length_map]);(have hkl:(jT jC::l.map jT).length=len+1:=by rw[List.length_cons,List.length_map];omega);have hB12:Below w.heap.size w X2:=hB1.trans (hB2.mono hB1.size);(have hB23:Below X2.heap.size X2 X3:=by rw[hX3];exact(zzd _ _).alloc (zzb _) _);(have hB34:Below X3.heap.size X3 X4:=by rw[hX4];exact(zzd _ _).alloc (zzb _) _);(have m3:X3.heap[X2.heap.size]? = some (.cells #[.slice (some ⟨g,0,none⟩) (len+1) c,.slice (some ⟨ng,0,none⟩) xs.length nc] 86 (0,0)):=by rw[hX3];exact World.alloc_heap_new X2 _);have hlt3:X2.heap.size<X3.heap.size:=(zza.1 m3).1;have m4:X4.heap[X2.heap.size]? = some (.cells #[.slice (some ⟨g,0,none⟩) (len+1) c,.slice (some ⟨ng,0,none⟩) xs.length nc] 86 (0,0)):=(hB34.block _ hlt3).trans m3;(have f4:X4.heap[X3.heap.size]? = some (.cells #[.func (.func 53) #[] #[],.func (.func 54) #[] #[],.func (.func 55) #[] #[]] 91 (0,0)):=by rw[hX4];exact World.alloc_heap_new X3 _);have hB24:Below X2.heap.size X2 X4:=hB23.trans (hB34.mono hB23.size);have hB14:Below X1.heap.size X1 X4:=hB2.trans (hB24.mono hB2.size);have hB4:Below w.heap.size w X4:=hB12.trans (hB24.mono hB12.size);have hlt4:X2.heap.size<X4.heap.size:=(zza.1 m4).1;(have hown4:X4.ownsRow w.heap.size 81 10 (.slice (some ⟨g,0,none⟩) (len+1) c) (jT jC::l.map jT).length (kJ (jT jC::l.map jT)):=gF hown fun k hk=>hB14.block k (gC hown hk).1);have hnm4:Nms w.heap.size X4 (.slice (some ⟨ng,0,none⟩) xs.length nc) xs:=(hnm.below hB24).base hB1.size;refine⟨hB4,fun X hX=>?_,?_,fun X hX=>?_,fun X hX=>?_⟩
  ·have hc:=fun j=>cell_of_row X X2.heap.size j _ _ _ ((hX.block _ hlt4).trans m4)
   exact⟨hc 0,hc 1⟩
  ·have:=gEo X2.heap.size g c X3.heap.size (.slice (some ⟨ng,0,none⟩) xs.length nc) (jT jC::l.map jT) X4 (by rw[hkl];exact m4) (gBe hown4) f4 oo
   rw[hDh] at this;exact this
  ·have hgr:=(hnm4.below hX).groups rfl oo
   rw[hxn] at hgr
   have hcap:xs.length<=nc/\nc<=maxLen:=by
    rcases hnm4.row.2 with ⟨e,_⟩ | ⟨g', cap,cur,e,_,_,h1,h2,_⟩
    ·cases e
    ·injection e with _ _ e3
     subst e3;exact⟨h1,h2⟩
   exact gCh ng nc xs.length (gJ l gs) X hgr oo hcap.1 (by have:=hcap.2;unfold maxLen at this;omega) hsz
  ·have hBX:Below w.heap.size w X:=hB4.trans (hX.mono hB4.size)
   have hR:RdI w.heap.size X X2.heap.size g c ng nc xs (whole::l.map (·.expr)) (jC::l) X (jT jC::l.map jT) 0:=by
    refine⟨by rw[hkl];exact(hX.block _ hlt4).trans m4,?_,hnm4.below hX,?_,fun j x s hj=>by omega,fun j s hj=>by omega,⟨rfl,rfl,rfl,zzb _,fun _ _ _=>rfl⟩,hE.below hBX⟩
    ·have:=gF hown4 (w' := X) fun k hk=>hX.block k (gC hown4 hk).1
     rw[hkl] at this ⊢;exact this
    ·rw[List.map_cons,List.map_map]
     show jC::l.map _=jC::l
     congr 1
     exact List.map_id' l
   have het:1<w.heap.size:=hE.lt;refine(gHn w.heap.size X2.heap.size g c ng nc xs whole (whole::l.map (·.expr)) (jC::l) X (jT jC::l.map jT) hR het rfl (gYt l whole) (by simp) (fun s hs=>?_) oo oo).mono ?_
   ·rcases List.mem_cons.1 hs with rfl | hs
    ·exact hw
    ·obtain⟨q,hq,rfl⟩:=List.mem_map.1 hs
     exact(hls q hq).2
   ·rintro e w' ⟨rfl,hgr,hz⟩
    rw[hxn] at hz ⊢;refine⟨rfl,hBX.grown hgr hBX.size (fun k e=>by injection e with e;subst e;exact iV hown (g:=g) rfl),fun h0=>?_⟩;obtain⟨ks', hk', hI⟩:=hz h0;rw[<-hk'] at hI;exact hI.made hxn oo oo
 generalize hnew:rI whole l gs=NE at *
 have HNE:=Hid.mk_ hnE
 clear hl hG hls hgs hE hsz hnl hnE hnew
 go_enter Tryz.func16,Tryz.ntmps16
 go_wp2_with fail
 refine HKO.out.mono ?_
 rintro e X1 ⟨g,c,rfl,hown,hB1⟩
 have HX1:Hid (X1.ownsRow w.heap.size 81 10 (.slice (some ⟨g,0,none⟩) (len+1) c) (jT jC::l.map jT).length (kJ (jT jC::l.map jT))/\Below w.heap.size w X1):=⟨hown,hB1⟩
 have HN1:=HNO.out X1 hB1
 clear hown hB1 HKO HNO
 go_wp2_with fail
 refine HN1.mono ?_
 rintro e X2 ⟨ng,nc,xs,rfl,hnm,hxn,hB2⟩
 obtain⟨hB4,hcells,hev,hrn,hra⟩:=HALL.out X1 X2 g c ng nc xs HX1.out.1 HX1.out.2 hnm hxn hB2 _ _ rfl rfl
 have HB4:=Hid.mk_ hB4
 have HCE:=Hid.mk_ hcells
 have HRN:=Hid.mk_ hrn
 have HRA:=Hid.mk_ hra
 obtain⟨ca,hca⟩:∃r,r=l.all okS:=⟨_,rfl⟩
 rw[<-hca] at hev HNE
 clear hnm hxn hB2 HALL HN1 HX1 hB4 hcells hrn hra hca
 rw[World.size_alloc] at hev
 go_wp2_with fail
 refine hev.mono ?_
 rintro e X5 ⟨rfl,hB5⟩
 have HB5:Hid (Below w.heap.size w X5):=HB4.out.trans (hB5.mono HB4.out.size)
 have HBX5:=Hid.mk_ hB5
 obtain⟨k0,k1⟩:=HCE.out X5 hB5
 have HRN5:=HRN.out X5 hB5
 clear hB5 hev
 cases ca with
 | false=>
  have HN:Hid (NE=1):=by
   show NE=1
   rw[HNE.out,if_neg (by simp)]
  clear HRN5;go_wp2;go_ret2;exact⟨HB5.out,.inl ⟨by rw[HN.out];decide,by rw[HN.out];rfl⟩⟩
 | true=>
  (go_wp2_with fail);refine HRN5.mono ?_;rintro e X6 ⟨r,rfl,hr,hB6⟩;have hB46:=HBX5.out.trans (hB6.mono HBX5.out.size);have HB6:Hid (Below w.heap.size w X6):=HB4.out.trans (hB46.mono HB4.out.size);have HRA6:=HRA.out X6 hB46;have HR:=Hid.mk_ hr;clear hB6 hB46 hr HRN5 HRN HRA;cases r with
  | false=>
   have HN:Hid (NE=1):=by
    show NE=1
    rw[HNE.out,if_neg (fun h=>by cases HR.out.2 h.2)]
   clear HRA6;go_wp2;go_ret2;exact⟨HB6.out,.inl ⟨by rw[HN.out];decide,by rw[HN.out];rfl⟩⟩
  | true=>
   have hN:NE=kL (whole::l.map (·.expr)) (gJ l gs):=by
    rw[HNE.out,if_pos ⟨rfl,HR.out.1 (by first | rfl | trivial)⟩]
   rw[<-hN] at HRA6;clear HNE hN HR;(go_wp2_with fail);refine HRA6.mono ?_;rintro e X7 ⟨rfl,hB7,hmade⟩;have HE:Hid (Below w.heap.size w X7/\(NE=0->vV X7 X2.heap.size whole l gs)):=⟨hB7,hmade⟩;clear hB7 hmade HRA6
   by_cases hz:NE=0
   ·subst hz
    have hb0:((0:Int) != 0)=false:=rfl;go_wp2;go_ret2
    first | exact⟨HE.out.1,.inr ⟨rfl,X2.heap.size,rfl,HE.out.2 rfl⟩⟩ | exact⟨HE.out.1,X2.heap.size,rfl,HE.out.2 (by first | rfl | trivial)⟩
   ·have e0:(NE==0)=false:=by simpa using hz
    (have e1:(NE != 0)=true:=by simp[bne,e0]);go_wp2;go_ret2;exact⟨HE.out.1,.inl ⟨hz,rfl⟩⟩
def kK:ByteArray:=⟨#[98,108,111,99,107,43]⟩
def gIi:ByteArray:=⟨#[116,101,120,116,42]⟩
def hGv:ByteArray:=⟨#[105,116,101,109,43]⟩
def jB:List gV:=[⟨⟨#[112,97,114,97]⟩,gIi,false,7,0,0,false⟩,⟨⟨#[104,101,97,100]⟩,gIi,false,7,1,6,false⟩,⟨⟨#[113,117,111,116,101]⟩,kK,false,0,0,0,false⟩,⟨⟨#[99,111,100,101]⟩,gIi,false,0,0,0,true⟩,⟨⟨#[108,105,115,116]⟩,hGv,false,0,0,1,false⟩,⟨⟨#[105,116,101,109]⟩,kK,false,0,0,0,false⟩,⟨⟨#[114,117,108,101]⟩,⟨#[]⟩,true,0,0,0,false⟩]
def lI:List Grp:=[(⟨#[98,108,111,99,107]⟩,[1,2,3,4,5,7])]
def hEc (gs:List Grp):Bool:=(List.range gs.length).all fun i=>match gs[i]? with
 | some x=>jJ x.1 && !((gs.take i).any fun y=>y.1.toList==x.1.toList)
 | none=>false
theorem gWb {gs:List Grp}(h:hEc gs=true):pQ gs:=by
 intro i x hx
 have hi:=(zzc.1 hx).1
 have h1:=List.all_eq_true.1 h i (List.mem_range.2 hi)
 rw[hx] at h1
 simp only[Bool.and_eq_true,Bool.not_eq_true'] at h1
 refine⟨h1.1,fun ⟨j,y,h2,h3,h4⟩=>?_⟩
 have:=List.any_eq_false.1 h1.2 y (zzj (i:=j) (by rw[List.getElem?_take,if_pos h2];exact h3))
 exact this h4
theorem gJi:rI kK jB lI=0:=by
 unfold rI
 rw[if_neg (by decide),if_pos ⟨by kernel_rfl,gWb kr⟩]
 kernel_rfl
theorem gDe (w:World)(b:Nat)(f:Nat×Nat)(h:w.heap[b]? = some (.cells #[.string ⟨#[112,97,114,97]⟩,.string ⟨#[116,101,120,116,42]⟩,.bool false,.int .i64 7,.int .i64 0,.int .i64 0,.bool false,.string ⟨#[104,101,97,100]⟩,.string ⟨#[116,101,120,116,42]⟩,.bool false,.int .i64 7,.int .i64 1,.int .i64 6,.bool false,.string ⟨#[113,117,111,116,101]⟩,.string ⟨#[98,108,111,99,107,43]⟩,.bool false,.int .i64 0,.int .i64 0,.int .i64 0,.bool false,.string ⟨#[99,111,100,101]⟩,.string ⟨#[116,101,120,116,42]⟩,.bool false,.int .i64 0,.int .i64 0,.int .i64 0,.bool true,.string ⟨#[108,105,115,116]⟩,.string ⟨#[105,116,101,109,43]⟩,.bool false,.int .i64 0,.int .i64 0,.int .i64 1,.bool false,.string ⟨#[105,116,101,109]⟩,.string ⟨#[98,108,111,99,107,43]⟩,.bool false,.int .i64 0,.int .i64 0,.int .i64 0,.bool false,.string ⟨#[114,117,108,101]⟩,.string ⟨#[]⟩,.bool true,.int .i64 0,.int .i64 0,.int .i64 0,.bool false] 34 f)):rN w (some ⟨b,0,none⟩) 7 jB:=by
 have hc:=fun j=>cell_of_row w b j _ _ _ h
 refine⟨rfl,oo,.inr ⟨b,0,rfl,(zza.1 h).1,fun i x hx=>?_⟩⟩
 match i,hx with
 | 0,hx=>cases hx;exact⟨hc 0,hc 1,hc 2,hc 3,hc 4,hc 5,hc 6⟩
 | 1,hx=>cases hx;exact⟨hc 7,hc 8,hc 9,hc 10,hc 11,hc 12,hc 13⟩
 | 2,hx=>cases hx;exact⟨hc 14,hc 15,hc 16,hc 17,hc 18,hc 19,hc 20⟩
 | 3,hx=>cases hx;exact⟨hc 21,hc 22,hc 23,hc 24,hc 25,hc 26,hc 27⟩
 | 4,hx=>cases hx;exact⟨hc 28,hc 29,hc 30,hc 31,hc 32,hc 33,hc 34⟩
 | 5,hx=>cases hx;exact⟨hc 35,hc 36,hc 37,hc 38,hc 39,hc 40,hc 41⟩
 | 6,hx=>cases hx;exact⟨hc 42,hc 43,hc 44,hc 45,hc 46,hc 47,hc 48⟩
 | n+7,hx=>simp[jB] at hx
theorem gCq (w:World):Calls Tryz.prog 30 #[] w fun e w' => ∃b,e=.returned (.slice (some ⟨b,0,none⟩) 7 7)/\rN w' (some ⟨b,0,none⟩) 7 jB/\Below w.heap.size w w' := by
 have HB:Hid (∀o,Below w.heap.size w (w.alloc o)):=fun o=>(zzd _ w).alloc (zzb _) _
 go_enter Tryz.func30,Tryz.ntmps30
 go_wp2
 go_ret
 exact⟨w.heap.size,rfl,gDe _ _ _ (World.alloc_heap_new w _),HB.out _⟩
theorem gBl (w:World)(b b1:Nat)(h:w.heap[b]? = some (.cells #[.string ⟨#[98,108,111,99,107]⟩,.slice (some ⟨b1,0,none⟩) 6 6] 63 (0,0)))(h1:w.heap[b1]? = some (.cells #[.int .i64 1,.int .i64 2,.int .i64 3,.int .i64 4,.int .i64 5,.int .i64 7] 3 (0,0))):iS w (some ⟨b,0,none⟩) 1 lI:=by
 have hc:=fun j=>cell_of_row w b j _ _ _ h
 have hd:=fun j=>cell_of_row w b1 j _ _ _ h1
 refine⟨rfl,oo,.inr ⟨b,0,rfl,(zza.1 h).1,fun i x hx=>?_⟩⟩
 match i,hx with
 | 0,hx=>
  cases hx;refine⟨some ⟨b1,0,none⟩,6,6,hc 0,hc 1,rfl,oo,.inr ⟨b1,0,rfl,(zza.1 h1).1,fun k y hy=>?_⟩⟩
  match k,hy with
  | 0,hy=>cases hy;exact hd 0
  | 1,hy=>cases hy;exact hd 1
  | 2,hy=>cases hy;exact hd 2
  | 3,hy=>cases hy;exact hd 3
  | 4,hy=>cases hy;exact hd 4
  | 5,hy=>cases hy;exact hd 5
  | n+6,hy=>simp at hy
 | n+1,hx=>simp[lI] at hx
theorem gBj (w:World):Calls Tryz.prog 31 #[] w fun e w' => ∃b,e=.returned (.slice (some ⟨b,0,none⟩) 1 1)/\iS w' (some ⟨b,0,none⟩) 1 lI/\Below w.heap.size w w' := by
 have hB1:Below w.heap.size w (w.alloc (.cells #[.int .i64 1,.int .i64 2,.int .i64 3,.int .i64 4,.int .i64 5,.int .i64 7] 3)):=(zzd _ w).alloc (zzb _) _
 have HG:Hid (iS ((w.alloc (.cells #[.int .i64 1,.int .i64 2,.int .i64 3,.int .i64 4,.int .i64 5,.int .i64 7] 3)).alloc (.cells #[.string ⟨#[98,108,111,99,107]⟩,.slice (some ⟨w.heap.size,0,none⟩) 6 6] 63)) (some ⟨w.heap.size+1,0,none⟩) 1 lI/\Below w.heap.size w ((w.alloc (.cells #[.int .i64 1,.int .i64 2,.int .i64 3,.int .i64 4,.int .i64 5,.int .i64 7] 3)).alloc (.cells #[.string ⟨#[98,108,111,99,107]⟩,.slice (some ⟨w.heap.size,0,none⟩) 6 6] 63))):=by
  refine⟨gBl _ _ w.heap.size ?_ ?_,hB1.alloc hB1.size _⟩
  ·have:=World.alloc_heap_new (w.alloc (.cells #[.int .i64 1,.int .i64 2,.int .i64 3,.int .i64 4,.int .i64 5,.int .i64 7] 3)) (.cells #[.string ⟨#[98,108,111,99,107]⟩,.slice (some ⟨w.heap.size,0,none⟩) 6 6] 63)
   rw[World.size_alloc] at this;exact this
  ·exact(zzf _ _ _ (by rw[World.size_alloc];omega)).trans (World.alloc_heap_new w _)
 clear hB1
 go_enter Tryz.func31,Tryz.ntmps31
 go_wp2
 go_ret
 exact⟨w.heap.size+1,rfl,HG.out⟩
theorem gDr (w:World)(hE:ETy w):Calls Tryz.prog 8 #[] w fun e w' => ∃B,e=.returned (.pointer (some ⟨B,0,none⟩))/\vV w' B kK jB lI/\Below w.heap.size w w' := by
 have HT:=Hid.mk_ (gCq w)
 have HG:Hid (∀X:World,Calls Tryz.prog 31 #[] X fun e w' => ∃b,e=.returned (.slice (some ⟨b,0,none⟩) 1 1)/\iS w' (some ⟨b,0,none⟩) 1 lI/\Below X.heap.size X w'):=fun X=>gBj X
 have HN:Hid (∀(X:World) (b1 b2:Nat),Below w.heap.size w X->rN X (some ⟨b1,0,none⟩) 7 jB->iS X (some ⟨b2,0,none⟩) 1 lI->Calls Tryz.prog 16 #[.string ⟨#[98,108,111,99,107,43]⟩,.slice (some ⟨b1,0,none⟩) 7 7,.slice (some ⟨b2,0,none⟩) 1 1] X fun e w' => Below X.heap.size X w' /\ ∃B,e=.returned (.tuple #[.pointer (some ⟨B,0,none⟩),.int .i64 0])/\vV w' B kK jB lI):=fun X b1 b2 hX h1 h2=>by
  refine(gWz kK (some ⟨b1,0,none⟩) 7 7 jB (some ⟨b2,0,none⟩) 1 1 lI X (by decide) h1 h2 (by decide) (by decide) (hE.below hX)).mono ?_;rintro e w' ⟨hB,⟨hn,_⟩ | ⟨_,B,rfl,hm⟩⟩
  ·exact absurd gJi hn
  ·exact⟨hB,B,rfl,hm⟩
 clear hE
 go_enter Tryz.func8,Tryz.ntmps8
 go_wp2_with fail
 refine HT.out.mono ?_
 rintro e X1 ⟨b1,rfl,hs1,hB1⟩
 have HS1:Hid (rN X1 (some ⟨b1,0,none⟩) 7 jB/\Below w.heap.size w X1):=⟨hs1,hB1⟩
 clear hs1 hB1 HT
 go_wp2_with fail
 refine(HG.out X1).mono ?_
 rintro e X2 ⟨b2,rfl,hg2,hB2⟩
 have hB02:=HS1.out.2.trans (hB2.mono HS1.out.2.size)
 have HN2:=HN.out X2 b1 b2 hB02 (HS1.out.1.below hB2) hg2
 have HB02:=Hid.mk_ hB02
 clear hg2 hB2 hB02 HN HG HS1
 go_wp2_with fail
 refine HN2.mono ?_
 rintro e X3 ⟨hB3,B,rfl,hm⟩
 have HE:Hid (vV X3 B kK jB lI/\Below w.heap.size w X3):=⟨hm,HB02.out.trans (hB3.mono HB02.out.size)⟩
 clear hm hB3 HN2
 go_wp2
 go_ret
 exact⟨B,rfl,HE.out⟩
structure Tok where
 k:Int
 t:Int
 n:Int
 m:Int
def gMw (x y:Tok):Bool:=x.k==y.k&&(x.t==y.t&&(x.n==y.n&&x.m==y.m))
def nT (x:Tok):Value:=.agg #[.int .i64 x.k,.int .i64 x.t,.int .i64 x.n,.int .i64 x.m]
def tY (n:Int):Bool:=decide (0<=n)&&decide (n<=1114111)&&(decide (n<55296)||decide (57343<n))
def qW (s:Int):Bool:=decide (0<=s)&&decide (s<=4)
def qV (x:Tok):Bool :=
 if x.k=0 then x.t==0&&tY x.n&&qW x.m
 else if x.k=1\/x.k=3 then decide (1<=x.t)&&decide (x.t<16)&&decide (0<=x.n)&&decide (x.n<=15)&&x.m==0
 else if x.k=2 then x.t==0&&x.n==0&&x.m==0
 else false
def mC (w:World)(a:Option Addr)(len:Nat)(l:List Tok):Prop :=
 l.length=len/\(len=0\/∃b o,a=some ⟨b,o,none⟩/\b<w.heap.size/\∀i x,l[i]? = some x->w.cell? ⟨b,o+i * 4,none⟩=some (.int .i64 x.k)/\w.cell? ⟨b,o+i * 4+1,none⟩=some (.int .i64 x.t) ∧
  w.cell? ⟨b,o+i * 4+2,none⟩=some (.int .i64 x.n)/\w.cell? ⟨b,o+i * 4+3,none⟩=some (.int .i64 x.m))
theorem k84{p:Prop}(h:p:=by
  exact⟨(hb.cell (p:=⟨b,_,none⟩) hlt).trans c0,(hb.cell (p:=⟨b,_,none⟩) hlt).trans c1,(hb.cell (p:=⟨b,_,none⟩) hlt).trans c2,(hb.cell (p:=⟨b,_,none⟩) hlt).trans c3⟩
  ):p:=h
theorem mC.below {w w' : World}{a:Option Addr}{len:Nat}{l:List Tok}(h:mC w a len l)(hb:Below w.heap.size w w'):mC w' a len l:=by
 obtain⟨h1,h2⟩:=h
 refine⟨h1,?_⟩
 rcases h2 with h2 | ⟨b,o,rfl,hlt,hc⟩
 ·exact .inl h2
 ·refine .inr ⟨b,o,rfl,zzl hlt hb.size,fun i x hx=>?_⟩
  obtain⟨c0,c1,c2,c3⟩:=hc i x hx;exact k84
def mM:List Tok->Nat->Int->Int×Int
 | [],i,d=>if 0<d then (i,3) else (i,0)
 | x::r,i,d=>
  if (!qV x||(x.k==2&&d==0))=true then (i,4)
  else if 32<(if x.k=1 then d+1 else if x.k=2 then d - 1 else d) then (i,8)
  else mM r (i+1) (if x.k=1 then d+1 else if x.k=2 then d - 1 else d)
def iO (l:List Tok):Int×Int:=if 2048<l.length then (0,2) else mM l 0 0
theorem uS {l:List Tok}{k:Nat}(h:k<l.length):∃x,l[k]? = some x/\l.drop k=x::l.drop (k+1):=⟨l[k],zze h,List.drop_eq_getElem_cons h⟩
theorem mC.token {w:World}{a:Option Addr}{len:Nat}{l:List Tok}(h:mC w a len l){k:Nat}(hk:k<len):∃b o x,a=some ⟨b,o,none⟩/\b<w.heap.size/\l[k]? = some x/\∀W:World,Below w.heap.size w W →
  W.cell? ⟨b,o+k * 4,none⟩=some (.int .i64 x.k)/\W.cell? ⟨b,o+k * 4+1,none⟩=some (.int .i64 x.t)/\W.cell? ⟨b,o+k * 4+2,none⟩=some (.int .i64 x.n)/\W.cell? ⟨b,o+k * 4+3,none⟩=some (.int .i64 x.m):=by
 obtain⟨h1,h2 | ⟨b,o,rfl,hlt,hc⟩⟩:=h
 ·omega
 ·have hx:l[k]? = some (l[k]'(by omega)):=zze oo
  refine⟨b,o,_,rfl,hlt,hx,fun W hb=>?_⟩;obtain⟨c0,c1,c2,c3⟩:=hc k _ hx;exact k84
end Go.Proofs.YtjkebndkeamijaaGreatDoor
