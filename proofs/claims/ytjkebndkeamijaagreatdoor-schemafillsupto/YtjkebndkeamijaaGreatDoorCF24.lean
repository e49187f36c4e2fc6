/-
  PROVED HERE: what the texts DFNamesF, DFRules, DFEvery, DFTypes6, DFListed6, DFNexts6 say.
-/
import Derived.Test.YtjkebndkeamijaaGreatDoorCF23
set_option maxRecDepth 100000
set_option maxHeartbeats 1000000
namespace Go.Proofs.YtjkebndkeamijaaGreatDoor
open Go.RowKit
theorem Hid.mk_ {p:Prop}(h:p):Hid p:=h
def textB:ByteArray:=⟨#[116,101,120,116]⟩
def specNames:Nat->List SpecD->List Grp
 | _,[]=>[]
 | i,s::r=>(s.name,[((i+1:Nat):Int)])::specNames (i+1) r
def namesD (l:List SpecD)(gs:List Grp):List Grp:=(textB,[0])::(specNames 0 l++gs)
theorem specNames_length:∀(l:List SpecD) (i:Nat),(specNames i l).length=l.length:=by
 intro l
 induction l with
 | nil=>intro i;rfl
 | cons s r ih=>intro i;rw[specNames,List.length_cons,ih,List.length_cons]
theorem specNames_snoc:∀(l:List SpecD) (i:Nat) (x:SpecD),specNames i (l++[x])=specNames i l++[(x.name,[((i+l.length+1:Nat):Int)])]:=by
 intro l
 induction l with
 | nil=>intro i x;simp[specNames]
 | cons s r ih=>intro i x;rw[List.cons_append,specNames,specNames,ih,List.cons_append,List.length_cons];simp only[Nat.add_assoc,Nat.add_comm 1]
theorem one_row (W:World)(t:Int):(W.alloc (.cells #[.int .i64 t] 3)).ownsRow 0 3 1 (.slice (some ⟨W.heap.size,0,none⟩) 1 1) 1 (intsV [t]):=⟨rfl,.inr ⟨W.heap.size,1,_,rfl,zzn _,World.alloc_heap_new W _,zzb _,by unfold maxLen;omega,rfl,rfl⟩⟩
theorem names_first (w:World):Nms w.heap.size ((w.alloc (.cells #[.int .i64 0] 3)).alloc (.cells #[.string textB,.slice (some ⟨w.heap.size,0,none⟩) 1 1] 63)) (.slice (some ⟨w.heap.size+1,0,none⟩) 1 1) [(textB,some ⟨w.heap.size,0,none⟩,1,[0])]:=by
 refine⟨⟨rfl,.inr ⟨w.heap.size+1,1,#[.string textB,.slice (some ⟨w.heap.size,0,none⟩) 1 1],rfl,oo,?_,zzb _,by unfold maxLen;omega,rfl,rfl⟩⟩,fun x hx=>?_⟩
 ·have:=World.alloc_heap_new (w.alloc (.cells #[.int .i64 0] 3)) (.cells #[.string textB,.slice (some ⟨w.heap.size,0,none⟩) 1 1] 63)
  rw[World.size_alloc] at this;exact this
 ·rw[List.mem_singleton] at hx
  subst hx;exact⟨World.ownsRow.alloc (one_row w 0) _,by show 1<=1500000;omega⟩
theorem names_type {w wr:World}{v:Value}{xs:List GrpD}{i:Nat}(h:Nms w.heap.size wr v xs)(hlen:xs.length<=100)(hB:Below w.heap.size w wr)(x:SpecD) :
  ∃g' cap' W1,(Builtin.append_ #[39,39] 39 #[v,.slice (some ⟨wr.heap.size+1+1,0,none⟩) 1 1]).run Tryz.prog (((wr.alloc (.cells #[.string x.name,.string x.expr,.bool x.leaf,.int .i64 x.marks,.int .i64 x.least,.int .i64 x.most,.bool x.lines] 34)).alloc (.cells #[.int .i64 (1+(i:Int))] 3)).alloc (.cells #[.string x.name,.slice (some ⟨wr.heap.size+1,0,none⟩) 1 1] 63))=.ok (.slice (some ⟨g', 0,none⟩) (xs.length+1) cap') W1/\Nms w.heap.size W1 (.slice (some ⟨g', 0,none⟩) (xs.length+1) cap') (xs++[(x.name,some ⟨wr.heap.size+1,0,none⟩,1,[1+(i:Int)])])/\Below w.heap.size w W1:=by
 obtain⟨W1,hW1⟩:∃W1,W1=wr.alloc (.cells #[.string x.name,.string x.expr,.bool x.leaf,.int .i64 x.marks,.int .i64 x.least,.int .i64 x.most,.bool x.lines] 34):=⟨_,rfl⟩
 have s1:W1.heap.size=wr.heap.size+1:=by rw[hW1,World.size_alloc]
 rw[<-hW1,<-s1]
 have hB1:Below wr.heap.size wr W1:=by rw[hW1];exact(zzd _ wr).alloc (zzb _) _
 clear hW1
 obtain⟨W2,hW2⟩:∃W2,W2=W1.alloc (.cells #[.int .i64 (1+(i:Int))] 3):=⟨_,rfl⟩
 have s2:W2.heap.size=W1.heap.size+1:=by rw[hW2,World.size_alloc]
 have hB2:Below wr.heap.size wr W2:=by rw[hW2];exact hB1.alloc hB1.size _
 have ho:W2.ownsRow 0 3 1 (.slice (some ⟨W1.heap.size,0,none⟩) 1 1) 1 (intsV [1+(i:Int)]):=by rw[hW2];exact one_row W1 _
 rw[<-hW2,<-s2]
 clear hW2
 have hB3:Below wr.heap.size wr (W2.alloc (.cells #[.string x.name,.slice (some ⟨W1.heap.size,0,none⟩) 1 1] 63)):=hB2.alloc hB2.size _
 obtain⟨g', cap', Z,h1,h2,h3⟩:=(h.below hB3).put (x.name,some ⟨W1.heap.size,0,none⟩,1,[1+(i:Int)]) ⟨World.ownsRow.alloc ho _,by show 1<=1500000;omega⟩ oo (by have:=hB3.size;have:=hB.size;omega) W2.heap.size 1 (two_cells W2 _ _ _)
 have hBZ:=hB.trans (hB3.mono hB.size)
 exact⟨g', cap', Z,h1,h2,hBZ.grown h3 hBZ.size (fun k e=>owned_base h.row e)⟩
theorem names_group {w wr Y Y1:World}{v:Value}{xs:List GrpD}{x:Grp}{ta a1:Option Addr}{tl tc c1 b0:Nat}(h:Nms w.heap.size wr v xs)(hlen:xs.length<=100)(hB:Below w.heap.size w wr)(hx:x.2.length=tl)(htl:tl<=1500000)(hcl:Y.ownsRow b0 3 1 (.slice a1 tl c1) tl (intsV x.2))(hBY:Below (wr.alloc (.cells #[.string x.1,.slice ta tl tc] 63)).heap.size (wr.alloc (.cells #[.string x.1,.slice ta tl tc] 63)) Y)(hY1:Y1=Y.alloc (.cells #[.string x.1,.slice a1 tl c1] 63)) :
  (Y1.cell? ⟨wr.heap.size,0,none⟩=some (.string x.1)/\Y1.cell? ⟨wr.heap.size,1,none⟩=some (.slice ta tl tc))/\∃g' cap' W1,(Builtin.append_ #[39,39] 39 #[v,.slice (some ⟨Y.heap.size,0,none⟩) 1 1]).run Tryz.prog Y1=.ok (.slice (some ⟨g', 0,none⟩) (xs.length+1) cap') W1/\(W1.cell? ⟨wr.heap.size,0,none⟩=some (.string x.1)/\W1.cell? ⟨wr.heap.size,1,none⟩=some (.slice ta tl tc))/\Nms w.heap.size W1 (.slice (some ⟨g', 0,none⟩) (xs.length+1) cap') (xs++[(x.1,a1,c1,x.2)])/\Below w.heap.size w W1:=by
 have hB1:Below wr.heap.size wr (wr.alloc (.cells #[.string x.1,.slice ta tl tc] 63)):=(zzd _ wr).alloc (zzb _) _
 have m0:(wr.alloc (.cells #[.string x.1,.slice ta tl tc] 63)).heap[wr.heap.size]? = some (.cells #[.string x.1,.slice ta tl tc] 63 (0,0)):=World.alloc_heap_new wr _
 have hlt0:wr.heap.size<(wr.alloc (.cells #[.string x.1,.slice ta tl tc] 63)).heap.size:=(zza.1 m0).1
 have mY:Y.heap[wr.heap.size]? = some (.cells #[.string x.1,.slice ta tl tc] 63 (0,0)):=(hBY.block _ hlt0).trans m0
 have hBYw:Below wr.heap.size wr Y:=hB1.trans (hBY.mono hB1.size)
 have hltY:wr.heap.size<Y.heap.size:=(zza.1 mY).1
 have mY1:Y1.heap[wr.heap.size]? = some (.cells #[.string x.1,.slice ta tl tc] 63 (0,0)):=by rw[hY1];exact(zzf Y _ _ hltY).trans mY
 have hB3:Below wr.heap.size wr Y1:=by rw[hY1];exact hBYw.alloc hBYw.size _
 have hok:GrpOk Y1 (x.1,a1,c1,x.2):=by
  refine⟨?_,by show x.2.length<=1500000;omega⟩
  show Y1.ownsRow 0 3 1 (.slice a1 x.2.length c1) x.2.length (intsV x.2)
  rw[hx,hY1]
  have:=World.ownsRow.alloc hcl (.cells #[.string x.1,.slice a1 tl c1] 63)
  refine⟨this.1,?_⟩;rcases this.2 with h2 | ⟨g,cap,cur,h1,h2,h3⟩
  ·exact .inl h2
  ·exact .inr ⟨g,cap,cur,h1,zzn _,h3⟩
 obtain⟨g', cap', Z,h1,h2,h3⟩:=(h.below hB3).put (x.1,a1,c1,x.2) hok oo (by have:=hB3.size;have:=hB.size;omega) Y.heap.size 1 (by unfold grpC;dsimp only;rw[hx,hY1];exact two_cells Y _ _ _)
 have hBZ:=hB.trans (hB3.mono hB.size)
 have hc1:=fun j=>cell_of_row Y1 wr.heap.size j _ _ _ mY1
 have mZ:Z.heap[wr.heap.size]? = some (.cells #[.string x.1,.slice ta tl tc] 63 (0,0)):=by
  refine(h3.block _ (zza.1 mY1).1 (fun e=>?_)).trans mY1
  have:=(owns_lt h.row e.symm).1
  omega
 have hcZ:=fun j=>cell_of_row Z wr.heap.size j _ _ _ mZ
 exact⟨⟨hc1 0,hc1 1⟩,g', cap', Z,h1,⟨hcZ 0,hcZ 1⟩,h2,hBZ.grown h3 hBZ.size (fun k e=>owned_base h.row e)⟩
theorem k113{p:Prop}(h:p:=by
  rw[List.length_map,List.length_cons,specNames_length,List.length_take] at this
  have:=HLL.out.1
  omega
  ):p:=h
theorem k111{p:Prop}(h:p:=by
  rw[List.map_append,hnm,List.map_singleton,List.take_add_one,hx,List.cons_append,List.append_assoc]
  rfl
  ):p:=h
theorem namesof_calls (a:Option Addr)(len cap:Nat)(l:List SpecD)(ga:Option Addr)(gl gc:Nat)(gs:List Grp)(w:World)(hl:Specs w a len l)(hG:Groups w ga gl gs)(hsz:len<=15)(hgz:gl<=16)(hts:∀x∈gs,x.2.length<=1500000) :
  Calls Tryz.prog 51 #[.slice a len cap,.slice ga gl gc] w fun e w' => ∃(g c:Nat) (xs:List GrpD),e=.returned (.slice (some ⟨g,0,none⟩) xs.length c)/\Nms w.heap.size w' (.slice (some ⟨g,0,none⟩) xs.length c) xs/\xs.map plainG=namesD l gs/\Below w.heap.size w w' := by
 have HS:Hid (∀(X:World) (i:Nat),Below w.heap.size w X->i<len->∃b o x,a=some ⟨b,o,none⟩/\l[i]? = some x/\SpecAt X b (o+i * 7) x):=fun X i hX hi=>by
  obtain⟨b,o,x,h1,_,h2,h3⟩:=hl.at hi;exact⟨b,o,x,h1,h2,h3 X hX⟩
 have HGG:Hid (∀(X:World) (i:Nat),Below w.heap.size w X->i<gl->∃b o x ta tl tc,ga=some ⟨b,o,none⟩/\gs[i]? = some x/\X.cell? ⟨b,o+i * 2,none⟩=some (.string x.1)/\X.cell? ⟨b,o+i * 2+1,none⟩=some (.slice ta tl tc)/\Ints X ta tl x.2/\tl<=1500000):=fun X i hX hi=>by
  obtain⟨b,o,x,ta,tl,tc,h1,h2,h3,h4⟩:=hG.at hi;obtain⟨h5,h6⟩:=h4 X hX;exact⟨b,o,x,ta,tl,tc,h1,h2,h5,h6,h3.below hX,by have:=hts x (zzj h2);have:=h3.1;omega⟩
 have HLL:Hid (l.length=len/\gs.length=gl):=⟨hl.1,hG.1⟩
 have HB0:Hid (Below w.heap.size w ((w.alloc (.cells #[.int .i64 0] 3)).alloc (.cells #[.string textB,.slice (some ⟨w.heap.size,0,none⟩) 1 1] 63))):=((zzd _ w).alloc (zzb _) _).alloc (by simp) _
 have HO0:=Hid.mk_ (names_first w)
 have hsi:(len:Int)<=15:=by omega
 have hgi:(gl:Int)<=16:=by omega
 clear hl hG hts
 go_enter Tryz.func51,Tryz.ntmps51
 go_wp2
 go_loopg [5,15] (len+1) (fun gk u v wr=>∃(i:Nat) (g c:Nat) (xs:List GrpD),i<=len/\len<i+gk/\u=.slice (some ⟨g,0,none⟩) xs.length c/\v=.int .i64 (i:Int)/\Nms w.heap.size wr (.slice (some ⟨g,0,none⟩) xs.length c) xs/\xs.map plainG=(textB,[0])::specNames 0 (l.take i)/\Below w.heap.size w wr)
 case atStart=>exact⟨0,_,_,[(textB,some ⟨w.heap.size,0,none⟩,1,[0])],zzn _,oo,rfl,rfl,HO0.out,by rw[List.take_zero];rfl,HB0.out⟩
 case round=>
  obtain⟨i,g,c,xs,hi,hgk,rfl,rfl,hown,hnm,hB⟩:=hrel;clear HO0 HB0
  have hxl:xs.length=i+1:=by
   have:=congrArg List.length hnm
   exact k113
  by_cases hlt:i<len
  ·obtain⟨b,o,x,rfl,hx,c0,c1,c2,c3,c4,c5,c6⟩:=HS.out wr i hB hlt
   (have hii:(i:Int)<(len:Int):=by omega);(have hi0:(0:Int)<=(i:Int):=by omega);(have hd:decide ((i:Int)<(len:Int))=true:=by simpa using hii);obtain⟨g', cap', W1,hrun,hown', hBW⟩:=names_type (i:=i) hown oo hB x;have htk:l.take (i+1)=l.take i++[x]:=by rw[List.take_add_one,hx];rfl
   have HN:Hid (Nms w.heap.size W1 (.slice (some ⟨g', 0,none⟩) (xs++[(x.name,some (⟨wr.heap.size+1,0,none⟩:Addr),1,[1+(i:Int)])]).length cap') (xs++[(x.name,some ⟨wr.heap.size+1,0,none⟩,1,[1+(i:Int)])])/\(xs++[(x.name,some (⟨wr.heap.size+1,0,none⟩:Addr),1,[1+(i:Int)])]).map plainG=(textB,[0])::specNames 0 (l.take (i+1))/\Below w.heap.size w W1):=by
    refine⟨by rw[List.length_append];exact hown', ?_,hBW⟩;rw[htk,specNames_snoc,List.map_append,hnm,List.map_singleton,List.cons_append];(have e1:(0+(l.take i).length+1:Nat)=1+i:=by rw[List.length_take];have:=HLL.out.1;omega);rw[e1]
    rfl
   have HRUN:=Hid.mk_ hrun;clear hown hB hBW hown' hrun htk HS hx hnm hxl
   go_wp2_with (first
    | (at_builtin;refine wpList_run_append rfl (.tmp 20) (.tmp 27) 39 rfl _ _ _ _ rfl rfl HRUN.out ?_)
    | fail)
   go_roundg (len - i)
   case measure=>omega
   case rel=>exact⟨i+1,g', cap', _,oo,oo,by rw[List.length_append];rfl,by first | rfl | go_num,HN.out⟩
  ·obtain rfl:i=len:=by omega
   have hd:decide ((i:Int)<(i:Int))=false:=by simp
   have HI0:Hid (Nms w.heap.size wr (.slice (some ⟨g,0,none⟩) xs.length c) xs/\xs.map plainG=(textB,[0])::(specNames 0 l++gs.take 0)/\Below w.heap.size w wr):=by
    rw[zzm (by have:=HLL.out.1;omega)] at hnm;exact⟨hown,by rw[hnm,List.take_zero,List.append_nil],hB⟩
   clear hown hB HS hnm hgk hxl;go_wp2
   go_loopg [5,32] (gl+1) (fun gk u v wr=>∃(j:Nat) (g c:Nat) (xs:List GrpD),j<=gl/\gl<j+gk/\u=.slice (some ⟨g,0,none⟩) xs.length c/\v=.int .i64 (j:Int)/\Nms w.heap.size wr (.slice (some ⟨g,0,none⟩) xs.length c) xs/\xs.map plainG=(textB,[0])::(specNames 0 l++gs.take j)/\Below w.heap.size w wr)
   case atStart=>exact⟨0,g,c,xs,zzn _,oo,rfl,rfl,HI0.out⟩
   case round=>
    clear HI0;obtain⟨j,g,c,xs,hj,hgk,rfl,rfl,hown,hnm,hB⟩:=hrel
    have hxl:xs.length=i+1+j:=by
     have:=congrArg List.length hnm
     rw[List.length_map,List.length_cons,List.length_append,specNames_length,List.length_take] at this
     have:=HLL.out.1
     have:=HLL.out.2
     omega
    by_cases hlt2:j<gl
    ·obtain⟨b,o,x,ta,tl,tc,rfl,hx,c0,c1,hti,htl⟩:=HGG.out wr j hB hlt2
     (have hii:(j:Int)<(gl:Int):=by omega);(have hj0:(0:Int)<=(j:Int):=by omega);(have hd2:decide ((j:Int)<(gl:Int))=true:=by simpa using hii);obtain⟨V0,hV0⟩:∃V0,V0=wr.alloc (.cells #[.string x.1,.slice ta tl tc] 63):=⟨_,rfl⟩;(have hBV:Below wr.heap.size wr V0:=by rw[hV0];exact(zzd _ wr).alloc (zzb _) _);(have m0:V0.heap[wr.heap.size]? = some (.cells #[.string x.1,.slice ta tl tc] 63 (0,0)):=by rw[hV0];exact World.alloc_heap_new wr _);have hlt0:wr.heap.size<V0.heap.size:=(zza.1 m0).1
     have HKS:Hid (∀X:World,Below V0.heap.size V0 X->X.cell? ⟨wr.heap.size,0,none⟩=some (.string x.1)/\X.cell? ⟨wr.heap.size,1,none⟩=some (.slice ta tl tc)):=fun X hX=>by
      have mX:=(hX.block _ hlt0).trans m0;(have hc:=fun q=>cell_of_row X wr.heap.size q _ _ _ mX);exact⟨hc 0,hc 1⟩
     (have HCL:Hid (∀X:World,Below V0.heap.size V0 X->Calls Tryz.prog 88 #[.slice ta tl tc] X fun e w' => ∃a1 c1,e=.returned (.slice a1 tl c1)/\w'.ownsRow X.heap.size 3 1 (.slice a1 tl c1) tl (intsV x.2)/\Below X.heap.size X w'):=fun X hX=>iclone_calls ta tl tc x.2 X (hti.below (hBV.trans (hX.mono hBV.size))) htl);have HVD:Hid (Below V0.heap.size V0 V0.drew):=(zzd _ _).drew
     have HPUT:Hid (∀(Y Y1:World) (a1:Option Addr) (c1:Nat),Y.ownsRow V0.drew.heap.size 3 1 (.slice a1 tl c1) tl (intsV x.2)->Below V0.heap.size V0 Y->Y1=Y.alloc (.cells #[.string x.1,.slice a1 tl c1] 63)->(Y1.cell? ⟨wr.heap.size,0,none⟩=some (.string x.1)/\Y1.cell? ⟨wr.heap.size,1,none⟩=some (.slice ta tl tc))/\∃g' cap' W1,(Builtin.append_ #[39,39] 39 #[.slice (some ⟨g,0,none⟩) xs.length c,.slice (some ⟨Y.heap.size,0,none⟩) 1 1]).run Tryz.prog Y1=.ok (.slice (some ⟨g', 0,none⟩) (xs.length+1) cap') W1/\(W1.cell? ⟨wr.heap.size,0,none⟩=some (.string x.1)/\W1.cell? ⟨wr.heap.size,1,none⟩=some (.slice ta tl tc))/\Nms w.heap.size W1 (.slice (some ⟨g', 0,none⟩) (xs++[(x.1,a1,c1,x.2)]).length cap') (xs++[(x.1,a1,c1,x.2)])/\(xs++[(x.1,a1,c1,x.2)]).map plainG=(textB,[0])::(specNames 0 l++gs.take (j+1))/\Below w.heap.size w W1):=fun Y Y1 a1 c1 q1 q2 q3=>by
      have hgl:=HLL.out;obtain⟨r1,g', cap', W1,r2,r3,r4,r5⟩:=names_group (ta:=ta) (tc:=tc) hown oo hB hti.1 htl q1 (by rw[hV0] at q2;exact q2) q3;refine⟨r1,g', cap', W1,r2,r3,by rw[List.length_append];exact r4,?_,r5⟩;exact k111
     rw[hV0] at HKS HCL HVD HPUT;clear hown hB hnm hti htl hx m0 hlt0 hBV hV0 HGG hgi hxl;obtain⟨xn,xt⟩:=x;dsimp only at *;(go_wp2_with fail);refine wp_region_held_drew (S:=fun X=>X.cell? ⟨wr.heap.size,0,none⟩=some (.string xn)/\X.cell? ⟨wr.heap.size,1,none⟩=some (.slice ta tl tc)) hmx (HKS.out _ HVD.out) (fun hS=>?_);refine takeG 0 (some 36) hS ?_;refine takeG 1 (some 37) hS ?_;refine takeG 2 (some 38) hS ?_ (hy:=by intro w hSw;obtain⟨k0,k1⟩:=hSw;go_simp;with_reducible rfl);refine takeG 3 (some 39) hS ?_;refine takeG 4 (some 40) hS ?_ (hy:=by intro w hSw;obtain⟨k0,k1⟩:=hSw;go_simp;with_reducible rfl);refine callD 5 kr rfl (fun K hK=>?_);rw[if_pos (by rfl)];go_simp;refine(HCL.out _ HVD.out).mono ?_;rintro e Y ⟨a1,c1,rfl,hcl,bY⟩;have HY:Hid (Y.ownsRow (wr.alloc (.cells #[.string xn,.slice ta tl tc] 63)).drew.heap.size 3 1 (.slice a1 tl c1) tl (intsV xt)/\Below (wr.alloc (.cells #[.string xn,.slice ta tl tc] 63)).heap.size (wr.alloc (.cells #[.string xn,.slice ta tl tc] 63)) Y):=⟨hcl,HVD.out.trans (bY.mono HVD.out.size)⟩;clear hcl bY;have hS1:=HKS.out Y HY.out.2;refine hK.out _ _ hS1 (fun _=>?_);clear hK K
     try simp only[lay4]
     refine takeG 6 (some 42) hS1 ?_;refine callD 7 kr rfl (fun K hK=>?_);rw[if_pos (by rfl)];go_simp;obtain⟨Y1,hY1⟩:∃Y1,Y.alloc (.cells #[.string xn,.slice a1 tl c1] 63)=Y1:=⟨_,rfl⟩;rw[hY1];have HP:=HPUT.out Y Y1 a1 c1 HY.out.1 HY.out.2 hY1.symm;clear hY1 HY;obtain⟨hS2,g2,cap2,Y2,hrun,hS3,hN⟩:=HP;have HRUN:=Hid.mk_ hrun;have HN:=Hid.mk_ hN;clear hrun hN;refine hK.out _ _ hS2 (fun _=>?_);clear hK K
     try simp only[lay4]
     refine callD 8 kr rfl (fun K hK=>?_);rw[if_pos (by rfl)];refine wp_run_append _ _ 39 rfl _ _ _ _ rfl rfl HRUN.out ?_;refine hK.out _ _ hS3 (fun _=>?_);clear hK K
     try simp only[Act.put,List.setIfInBounds_toArray]
     refine takeF 9 (some 5) (v:=?_) hS3 ?_ ?_
     rotate_left
     ·intro w hSw
      try go_simp
      with_reducible rfl
     try simp only[Act.put]
     refine wpAnyH_done kr ?_ _;go_wp2
     go_roundg (gl - j)
     case measure=>omega
     case rel=>exact⟨j+1,g2,cap2,xs++[(xn,a1,c1,xt)],oo,oo,by rw[List.length_append];rfl,by first | rfl | go_num,HN.out⟩
    ·obtain rfl:j=gl:=by omega
     have hd2:decide ((j:Int)<(j:Int))=false:=by simp
     have HE:Hid (Nms w.heap.size wr (.slice (some ⟨g,0,none⟩) xs.length c) xs/\xs.map plainG=namesD l gs/\Below w.heap.size w wr):=by
      rw[zzm (by have:=HLL.out.2;omega)] at hnm;exact⟨hown,hnm,hB⟩
     clear hown hnm hB HGG hxl;go_wp2;go_ret;exact⟨g,c,xs,rfl,HE.out⟩
def okM (s:SpecD):Bool:=decide (0<=s.marks)&&decide (s.marks<=7)
def okN (s:SpecD):Bool:=decide (0<=s.least)&&decide (s.least<=s.most)&&decide (s.most<=15)
def okL (s:SpecD):Bool := !s.leaf||s.expr.toList.isEmpty
theorem k93{p:Prop}(h:p:=by
  go_enter Tryz.func53,Tryz.ntmps53;go_wp2;go_ret;exact⟨by simp,HR.out⟩
  ):p:=h
theorem hasmarks_calls (b o:Nat)(s:SpecD)(w:World)(h:SpecAt w b o s):Calls Tryz.prog 53 #[.pointer (some ⟨b,o,none⟩)] w fun e w' => e=.returned (.bool (okM s))/\Below w.heap.size w w' := by
 obtain⟨_,_,_,c3,_,_,_⟩:=h
 have HR:Hid (Below w.heap.size w w):=zzd _ _
 have HD:Hid (Below w.heap.size w w.drew):=(zzd _ _).drew
 unfold okM
 by_cases d1:0<=s.marks
 ·by_cases d2:s.marks<=7
  ·have e1:decide (0<=s.marks)=true:=by simpa using d1
   (have e2:decide (s.marks<=7)=true:=by simpa using d2);go_enter Tryz.func53,Tryz.ntmps53;go_wp2;go_ret;exact⟨by simp[d1,d2],HR.out⟩
  ·have e1:decide (0<=s.marks)=true:=by simpa using d1
   (have e2:decide (s.marks<=7)=false:=by simpa using d2);exact k93
 ·have e1:decide (0<=s.marks)=false:=by simpa using d1
  exact k93
theorem k57{p:Prop}(h:p:=by
  go_enter Tryz.func54,Tryz.ntmps54;go_wp2
  go_quiet (fail)
  go_wp2;go_ret;exact⟨by simp[d1,d2,d3],⟨rfl,rfl,rfl,zzb _,fun _ _=>rfl⟩⟩
  ):p:=h
theorem hasnumbers_calls (b o:Nat)(s:SpecD)(w:World)(h:SpecAt w b o s):Calls Tryz.prog 54 #[.pointer (some ⟨b,o,none⟩)] w fun e w' => e=.returned (.bool (okN s))/\Below w.heap.size w w' := by
 obtain⟨_,_,_,_,c4,c5,_⟩:=h
 have HR:Hid (∀X,Below w.heap.size w X->Below w.heap.size w X):=fun _ h=>h
 unfold okN
 by_cases d1:0<=s.least
 ·have e1:decide (0<=s.least)=true:=by simpa using d1
  by_cases d2:s.least<=s.most
  ·have e2:decide (s.least<=s.most)=true:=by simpa using d2
   by_cases d3:s.most<=15
   ·have e3:decide (s.most<=15)=true:=by simpa using d3
    exact k57
   ·have e3:decide (s.most<=15)=false:=by simpa using d3
    exact k57
  ·have e2:decide (s.least<=s.most)=false:=by simpa using d2
   go_enter Tryz.func54,Tryz.ntmps54;go_wp2
   go_quiet (fail)
   go_wp2;go_ret;exact⟨by first | (rw[e1,e2];rfl) | (simp;omega),⟨rfl,rfl,rfl,zzb _,fun _ _=>rfl⟩⟩
 ·have e1:decide (0<=s.least)=false:=by simpa using d1
  go_enter Tryz.func54,Tryz.ntmps54;go_wp2
  go_quiet (fail)
  go_wp2;go_ret;exact⟨by first | (rw[e1];rfl) | (simp;omega),⟨rfl,rfl,rfl,zzb _,fun _ _=>rfl⟩⟩
theorem k83{p:Prop}(h:p:=by
  rw[e];go_enter Tryz.func55,Tryz.ntmps55;go_wp2;go_ret;exact⟨by simp,HR.out⟩
  ):p:=h
theorem isemptyleaf_calls (b o:Nat)(s:SpecD)(w:World)(h:SpecAt w b o s):Calls Tryz.prog 55 #[.pointer (some ⟨b,o,none⟩)] w fun e w' => e=.returned (.bool (okL s))/\Below w.heap.size w w' := by
 obtain⟨_,c1,c2,_,_,_,_⟩:=h
 have HR:Hid (Below w.heap.size w w):=zzd _ _
 unfold okL
 generalize s.leaf=lf at *
 cases lf with
 | false=>
  go_enter Tryz.func55,Tryz.ntmps55;go_wp2;go_ret;exact⟨by simp,HR.out⟩
 | true=>
  by_cases d:s.expr.toList=[]
  ·have e:s.expr.toList.isEmpty=true:=by rw[d];rfl
   exact k83
  ·have e:s.expr.toList.isEmpty=false:=List.isEmpty_eq_false_iff.2 d
   exact k83
def KindsAt (w:World)(g:Nat)(ks:List KindD):Prop:=g<w.heap.size/\∀(i:Nat) (x:KindD),ks[i]? = some x->SpecAt w g (i * 10) x.1
theorem KindsAt.below {w w' : World}{g:Nat}{ks:List KindD}(h:KindsAt w g ks)(hB:Below w.heap.size w w'):KindsAt w' g ks :=
 ⟨zzl h.1 hB.size,fun i x hx=>(h.2 i x hx).same (hB.block g h.1)⟩
theorem kinds_at {w:World}{base g n c:Nat}{ks:List KindD}(h:w.ownsRow base 81 10 (.slice (some ⟨g,0,none⟩) n c) ks.length (flatK ks)):KindsAt w g ks:=by
 refine⟨(owns_lt h (g:=g) rfl).1,fun i x hx=>?_⟩
 have h0:0<ks.length:=by have:=(zzc.1 hx).1;omega
 obtain⟨g', cap', e,hc⟩:=owns_cell h h0
 injection e with e1
 injection e1 with e1
 injection e1 with e1
 subst e1
 exact⟨hc _ _ (flatK_at (j:=0) hx rfl),hc _ _ (flatK_at (j:=1) hx rfl),hc _ _ (flatK_at (j:=2) hx rfl),hc _ _ (flatK_at (j:=3) hx rfl),hc _ _ (flatK_at (j:=4) hx rfl),hc _ _ (flatK_at (j:=5) hx rfl),hc _ _ (flatK_at (j:=6) hx rfl)⟩
def okS (s:SpecD):Bool:=okM s&&(okN s&&okL s)
theorem k43{p:Prop}(h:p:=by
  have HF:Hid (((ks.drop 1).all fun x=>okS x.1)=false):=by
   refine List.all_eq_false.2 ⟨x,zzj (i:=i - 1) (by rw[List.getElem?_drop,show 1+(i - 1)=i by omega];exact HB.out.1),?_⟩;have hr:=HR.out;unfold okS;rw[hr]
   simp
  go_wp2;go_ret;exact⟨by rw[HF.out];rfl,HB1.out⟩
  ):p:=h
theorem everytype_calls (B g c nn:Nat)(nv:Value)(ks:List KindD)(w:World)(hs:w.heap[B]? = some (.cells #[.slice (some ⟨g,0,none⟩) ks.length c,nv] 86 (0,0)))(hk:KindsAt w g ks)(hf:w.heap[nn]? = some (.cells #[.func (.func 53) #[] #[],.func (.func 54) #[] #[],.func (.func 55) #[] #[]] 91 (0,0)))(hlen:ks.length<=100) :
  Calls Tryz.prog 52 #[.pointer (some ⟨B,0,none⟩),.slice (some ⟨nn,0,none⟩) 3 3] w fun e w' => e=.returned (.bool ((ks.drop 1).all fun x=>okS x.1))/\Below w.heap.size w w' := by
 have hB0:B<w.heap.size:=(zza.1 hs).1
 have hn0:nn<w.heap.size:=(zza.1 hf).1
 have HC:Hid (∀X,Below w.heap.size w X->X.cell? ⟨B,0,none⟩=some (.slice (some ⟨g,0,none⟩) ks.length c)/\X.cell? ⟨nn,0,none⟩=some (.func (.func 53) #[] #[])/\X.cell? ⟨nn,1,none⟩=some (.func (.func 54) #[] #[])/\X.cell? ⟨nn,2,none⟩=some (.func (.func 55) #[] #[])):=fun X hX=>by
  have h1:=fun j=>cell_of_row X B j _ _ _ ((hX.block _ hB0).trans hs)
  have h2:=fun j=>cell_of_row X nn j _ _ _ ((hX.block _ hn0).trans hf)
  exact⟨h1 0,h2 0,h2 1,h2 2⟩
 have HK:Hid (∀X,Below w.heap.size w X->∀(i:Nat) (x:KindD),ks[i]? = some x->SpecAt X g (i * 10) x.1):=fun X hX=>(hk.below hX).2
 have hli:(ks.length:Int)<=100:=by omega
 clear hs hk hf hB0 hn0
 go_enter Tryz.func52,Tryz.ntmps52
 go_wp2
 go_loopg [5] (ks.length+2) (fun gk v wr=>∃i:Nat,1<=i/\ks.length+1<i+gk/\(i<=ks.length\/i=1)/\v=.int .i64 (i:Int)/\(∀(j:Nat) (x:KindD),1<=j->j<i->ks[j]? = some x->okS x.1=true)/\Below w.heap.size w wr)
 case atStart=>exact⟨1,oo,oo,.inr rfl,rfl,fun j x h1 h2=>by omega,zzd _ _⟩
 case round=>
  obtain⟨i,hi1,hgk,hi2,rfl,hT,hB⟩:=hrel;obtain⟨c0,f0,f1,f2⟩:=HC.out wr hB
  by_cases hlt:i<ks.length
  ·obtain⟨x,hx⟩:∃x,ks[i]? = some x:=⟨_,zze hlt⟩
   (have hii:(i:Int)<(ks.length:Int):=by omega);(have hi0:(0:Int)<=(i:Int):=by omega);(have hdi:decide ((i:Int)<(ks.length:Int))=true:=by simpa using hii);(have HSP:Hid (∀X,Below w.heap.size w X->SpecAt X g (i * 10) x.1):=fun X hX=>HK.out X hX i x hx);have HB:Hid (ks[i]? = some x/\(∀(j:Nat) (x:KindD),1<=j->j<i->ks[j]? = some x->okS x.1=true)/\Below w.heap.size w wr):=⟨hx,hT,hB⟩;have HM1:=hasmarks_calls g (i * 10) x.1 wr (HSP.out wr hB);clear hT hB hx HK;go_wp2;clear HM1 c0 f0 f1 f2
   go_loopg [19] 4 (fun gk v wr=>∃j:Nat,j<=3/\3<j+gk/\v=.int .i64 (j:Int)/\(1<=j->okM x.1=true)/\(2<=j->okN x.1=true)/\(3<=j->okL x.1=true)/\Below w.heap.size w wr)
   case atStart=>exact⟨0,oo,oo,rfl,fun h=>by omega,fun h=>by omega,fun h=>by omega,HB.out.2.2⟩
   case round=>
    obtain⟨j,hj,hgk2,rfl,t1,t2,t3,hBr⟩:=hrel;obtain rfl | rfl | rfl | rfl:j=0\/j=1\/j=2\/j=3:=by omega
    ·have HM:=hasmarks_calls g (i * 10) x.1 wr (HSP.out wr hBr)
     obtain⟨c0,f0,f1,f2⟩:=HC.out wr hBr;have HBr:Hid (Below w.heap.size w wr/\(1<=0->okM x.1=true)/\(2<=0->okN x.1=true)/\(3<=0->okL x.1=true)):=⟨hBr,t1,t2,t3⟩;obtain⟨r,hr⟩:∃r,okM x.1=r:=⟨_,rfl⟩;rw[hr] at HM;have HR:Hid (okM x.1=r):=hr;clear hBr t1 t2 t3 hr;(go_wp2_with fail);refine HM.mono ?_;rintro e W1 ⟨rfl,hB1⟩;have HB1:Hid (Below w.heap.size w W1):=HBr.out.1.trans (hB1.mono HBr.out.1.size);clear hB1 HM;cases r with
     | true=>
      go_wp2
      go_roundg (3 - 0)
      case measure=>omega
      case rel=>exact⟨0+1,oo,oo,by first | rfl | go_num,fun _=>HR.out,fun h=>HBr.out.2.2.1 oo,fun h=>HBr.out.2.2.2 oo,HB1.out⟩
     | false=>
      exact k43
    ·have HM:=hasnumbers_calls g (i * 10) x.1 wr (HSP.out wr hBr)
     obtain⟨c0,f0,f1,f2⟩:=HC.out wr hBr;have HBr:Hid (Below w.heap.size w wr/\(1<=1->okM x.1=true)/\(2<=1->okN x.1=true)/\(3<=1->okL x.1=true)):=⟨hBr,t1,t2,t3⟩;obtain⟨r,hr⟩:∃r,okN x.1=r:=⟨_,rfl⟩;rw[hr] at HM;have HR:Hid (okN x.1=r):=hr;clear hBr t1 t2 t3 hr;(go_wp2_with fail);refine HM.mono ?_;rintro e W1 ⟨rfl,hB1⟩;have HB1:Hid (Below w.heap.size w W1):=HBr.out.1.trans (hB1.mono HBr.out.1.size);clear hB1 HM;cases r with
     | true=>
      go_wp2
      go_roundg (3 - 1)
      case measure=>omega
      case rel=>exact⟨1+1,oo,oo,by first | rfl | go_num,fun h=>HBr.out.2.1 oo,fun _=>HR.out,fun h=>HBr.out.2.2.2 oo,HB1.out⟩
     | false=>
      exact k43
    ·have HM:=isemptyleaf_calls g (i * 10) x.1 wr (HSP.out wr hBr)
     obtain⟨c0,f0,f1,f2⟩:=HC.out wr hBr;have HBr:Hid (Below w.heap.size w wr/\(1<=2->okM x.1=true)/\(2<=2->okN x.1=true)/\(3<=2->okL x.1=true)):=⟨hBr,t1,t2,t3⟩;obtain⟨r,hr⟩:∃r,okL x.1=r:=⟨_,rfl⟩;rw[hr] at HM;have HR:Hid (okL x.1=r):=hr;clear hBr t1 t2 t3 hr;(go_wp2_with fail);refine HM.mono ?_;rintro e W1 ⟨rfl,hB1⟩;have HB1:Hid (Below w.heap.size w W1):=HBr.out.1.trans (hB1.mono HBr.out.1.size);clear hB1 HM;cases r with
     | true=>
      go_wp2
      go_roundg (3 - 2)
      case measure=>omega
      case rel=>exact⟨2+1,oo,oo,by first | rfl | go_num,fun h=>HBr.out.2.1 oo,fun h=>HBr.out.2.2.1 oo,fun _=>HR.out,HB1.out⟩
     | false=>
      exact k43
    ·have HN:Hid ((∀(j:Nat) (x:KindD),1<=j->j<i+1->ks[j]? = some x->okS x.1=true)/\Below w.heap.size w wr):=by
      refine⟨fun q y h1 h2 hy=>?_,hBr⟩
      by_cases e:q=i
      ·subst e
       rw[HB.out.1] at hy;cases hy;unfold okS;rw[t1 oo,t2 oo,t3 oo]
       rfl
      ·exact HB.out.2.1 q y h1 oo hy
     clear hBr t1 t2 t3;go_wp2
     go_roundg (ks.length+1 - i)
     case measure=>omega
     case rel=>exact⟨i+1,oo,oo,.inl oo,by first | rfl | go_num,HN.out⟩
  ·have hdi:decide ((i:Int)<(ks.length:Int))=false:=by simp;omega
   have HE:Hid (((ks.drop 1).all fun x=>okS x.1)=true/\Below w.heap.size w wr):=⟨by
    rw[List.all_eq_true];intro x hx;obtain⟨j,hj⟩:=List.getElem?_of_mem hx;rw[List.getElem?_drop] at hj
    exact hT (1+j) x oo (by have:=(zzc.1 hj).1;omega) hj,hB⟩
   clear hT hB HK HC;go_wp2;go_ret;exact⟨by rw[HE.out.1];rfl,HE.out.2⟩
end Go.Proofs.YtjkebndkeamijaaGreatDoor
namespace Go.Proofs.YtjkebndkeamijaaGreatDoor
open Go.RowKit Go.Maps
def TakenBy (F:List Place)(S:Nat->Bool)(ok:Nat->Bool)(left:Lit->Bool)(j:Nat):Prop:=∃(p:Nat) (x:Place),S p=true/\left (.int .i64 (p:Int))=false/\F[p]? = some x/\ok x.2.2=true/\x.1.testBit j=true
structure TypI (F:List Place) (N:Nat) (S:Nat->Bool) (ok:Nat->Bool) (bh:Nat) (W1 wr:World) (D:DataW Unit) (left:Lit->Bool) (cnt acc:Nat):Prop where
 rg:wr.ranges Tryz.prog 3 unitElem bh W1.heap.size N D left cnt
 sub:∀kl,left kl=true->∃p:Nat,kl=.int .i64 (p:Int)/\S p=true
 iff:∀j,acc.testBit j=true↔TakenBy F S ok left j
 lt:acc<65536
 bel:Below W1.heap.size W1 wr
theorem k76{p:Prop}(h:p:=by
  exact(h.bel.grown hg1 h.bel.size (fun k e=>by cases e;exact zzb _)).grown hg2 (Nat.le_trans h.bel.size hg1.size) (fun k e=>by cases e)
  ):p:=h
theorem TypI.on {F:List Place}{N:Nat}{S ok:Nat->Bool}{bh:Nat}{W1 wr:World}{D:DataW Unit}{left:Lit->Bool}{cnt acc:Nat}(h:TypI F N S ok bh W1 wr D left cnt acc){p:Nat}{x:Place}(hp:S p=true)(hx:F[p]? = some x)(hm:x.1<65536){w1 w2:World}{cnt1:Nat}(hg1:wr.grownBy w1 (some W1.heap.size))(hrg:w1.ranges Tryz.prog 3 unitElem bh W1.heap.size N D (fun z=>left z && !z.sameKey (.int .i64 (p:Int))) cnt1)(hg2:w1.grownBy w2 none) :
  TypI F N S ok bh W1 w2 D (fun z=>left z && !z.sameKey (.int .i64 (p:Int))) cnt1 (if ok x.2.2=true then acc ||| x.1 else acc):=by
 have hkey:WideAt.IsKeyLit (.int .i64 (p:Int)):=by trivial
 have hsame:∀z:Lit,z.sameKey (.int .i64 (p:Int))=true↔z=.int .i64 (p:Int):=fun z=>⟨fun e=>WideAt.sameKey_eq e,fun e=>by rw[e];exact WideAt.sameKey_self hkey⟩
 have hleft:∀q:Nat,(left (.int .i64 (q:Int)) && !(Lit.int .i64 (q:Int)).sameKey (.int .i64 (p:Int)))=false↔(left (.int .i64 (q:Int))=false\/q=p):=fun q=>by
  exact k50
 have hT:∀j,TakenBy F S ok (fun z=>left z && !z.sameKey (.int .i64 (p:Int))) j↔(TakenBy F S ok left j\/(ok x.2.2=true/\x.1.testBit j=true)):=fun j=>by
  constructor
  ·rintro⟨q,y,h1,h2,h3,h4,h5⟩
   rcases (hleft q).1 h2 with e | e
   ·exact .inl ⟨q,y,h1,e,h3,h4,h5⟩
   ·subst e
    rw[hx] at h3;cases h3;exact .inr ⟨h4,h5⟩
  ·rintro (⟨q,y,h1,h2,h3,h4,h5⟩ | ⟨h4,h5⟩)
   ·exact⟨q,y,h1,(hleft q).2 (.inl h2),h3,h4,h5⟩
   ·exact⟨p,x,hp,(hleft p).2 (.inr rfl),hx,h4,h5⟩
 refine⟨hrg.kept hg2 (by simp) (by simp),fun kl hk=>h.sub kl (by rw[Bool.and_eq_true] at hk;exact hk.1),fun j=>?_,?_,?_⟩
 ·rw[hT,<-h.iff]
  split
  ·rename_i e
   rw[Nat.testBit_or,Bool.or_eq_true];exact⟨fun q=>q.imp_right fun r=>⟨e,r⟩,fun q=>q.imp_right fun r=>r.2⟩
  ·rename_i e
   exact⟨.inl,fun q=>q.elim id fun r=>absurd r.1 e⟩
 ·split
  ·exact Nat.or_lt_two_pow (n:=16) h.lt hm
  ·exact h.lt
 ·exact k76
end Go.Proofs.YtjkebndkeamijaaGreatDoor
namespace Go.Proofs.YtjkebndkeamijaaGreatDoor
open Go.RowKit
theorem bit_small {m j:Nat}(h:m<65536)(hj:m.testBit j=true):j<16:=by
 rcases Nat.lt_or_ge j 16 with e | e
 ·exact e
 ·have:m<2 ^ j:=zzl h (Nat.pow_le_pow_right (n:=2) (by decide) e)
  rw[Nat.testBit_lt_two_pow this] at hj;cases hj
def PreD (gs:List Grp)(n:Nat)(t:DataW Unit)(zs:List Int):Prop:=∃q,afterS (planF gs n t) (startS (planF gs n t) (firstF gs n t)) zs q
def LongD (gs:List Grp)(n:Nat)(t:DataW Unit)(zs:List Int)(i:Nat):Prop:=i<=zs.length/\PreD gs n t (zs.take i)/\(i<zs.length->¬PreD gs n t (zs.take (i+1)))
theorem pre_less {gs:List Grp}{n:Nat}{t:DataW Unit}{xs ys:List Int}(h:PreD gs n t (xs++ys)):PreD gs n t xs:=by
 unfold PreD at h ⊢
 obtain⟨q,hq⟩:=h
 apply Classical.byContradiction
 intro hn
 have:∀p,¬afterS (planF gs n t) (startS (planF gs n t) (firstF gs n t)) xs p:=fun p hp=>hn ⟨p,hp⟩
 have h2:=afterS_empty (F:=planF gs n t) this ys q
 unfold afterS at hq h2
 rw[List.foldl_append] at hq
 exact h2 hq
theorem long_all {gs:List Grp}{n:Nat}{t:DataW Unit}{zs:List Int}{i:Nat}(h:LongD gs n t zs i)(hp:PreD gs n t zs):i=zs.length:=by
 obtain⟨h1,_,h3⟩:=h
 rcases Nat.lt_or_ge i zs.length with e | e
 ·refine absurd ?_ (h3 e)
  rw[<-List.take_append_drop (i+1) zs] at hp;exact pre_less hp
 ·omega
theorem begins_calls (n:Nat)(t:DataW Unit)(v:Value)(ga:Option Addr)(gl gc:Nat)(gs:List Grp)(za:Option Addr)(zl zc:Nat)(zs:List Int)(w:World)(h:Ex w n t v)(hN:named n t)(hG:Groups w ga gl gs)(hZ:Ints w za zl zs)(hc:chk n t gs=0) :
  Calls Tryz.prog 134 #[v,.slice ga gl gc,.slice za zl zc] w fun e w' => ∃i:Nat,e=.returned (.int .i64 (i:Int))/\LongD gs n t zs i/\Below w.heap.size w w' := by
 have hb0:∀o,Below w.heap.size w (w.alloc o):=fun o=>(zzd _ w).alloc (zzb _) _
 have HW:Hid (∀o,Calls Tryz.prog 86 #[v,.slice ga gl gc,.slice za zl zc] (w.alloc o) fun e w' => ∃(Bw:Nat) (i:Nat),e=.returned (.tuple #[.pointer (some ⟨Bw,0,none⟩),.int .i64 (i:Int)])/\LongD gs n t zs i/\Below w.heap.size w w'):=fun o=>by
  refine(walked_calls n t v ga gl gc gs za zl zc zs (w.alloc o) (Ex.below (hb0 o) _ _ _ h) hN (hG.below (hb0 o)) (hZ.below (hb0 o)) hc).mono ?_;rintro e W ⟨Bw,S,i,rfl,_,⟨r1,r2,r3⟩,hB⟩;refine⟨Bw,i,rfl,⟨r1,r2,fun hi hp=>?_⟩,(hb0 o).trans (hB.mono (by simp))⟩;rcases r3 with ⟨e,_⟩ | ⟨_,_,e⟩
  ·omega
  ·obtain⟨q,hq⟩:=hp
   exact e q hq
 obtain⟨k,s,a,len,cap,rfl⟩:∃k s a len cap,v=.agg #[.int .i64 k,.string s,.slice a len cap]:=by
  exact k106
 clear h hN hG hZ hc hb0
 go_enter Tryz.func134,Tryz.ntmps134
 go_wp2_with fail
 refine(HW.out _).mono ?_
 rintro e W ⟨Bw,i,rfl,hL,hB⟩
 have HE:Hid (LongD gs n t zs i/\Below w.heap.size w W):=⟨hL,hB⟩
 clear hL hB HW
 go_wp2
 go_ret
 exact⟨i,rfl,HE.out⟩
theorem takes_bit {m:Nat}(hm:m<65536)(x:Int):takes m x=true↔∃j:Nat,x=(j:Int)/\m.testBit j=true:=by
 have htk:takes m x=(isTy x&&m.testBit x.toNat):=by unfold takes isTy;rfl
 rw[htk,Bool.and_eq_true]
 constructor
 ·rintro⟨h1,h2⟩
  refine⟨x.toNat,?_,h2⟩;unfold isTy at h1;simp at h1;omega
 ·rintro⟨j,rfl,hj⟩
  have:=bit_small hm hj
  refine⟨by unfold isTy;simp;omega,by simpa using hj⟩
theorem pre_snoc {gs:List Grp}{n:Nat}{t:DataW Unit}{zs:List Int}{S:Nat->Bool}(hF:Sound1 (planF gs n t) (planF gs n t).length)(hS:∀q,S q=true↔afterS (planF gs n t) (startS (planF gs n t) (firstF gs n t)) zs q)(x:Int) :
  PreD gs n t (zs++[x])↔∃j:Nat,x=(j:Int)/\∃(p:Nat) (y:Place),S p=true/\(planF gs n t)[p]? = some y/\y.1.testBit j=true:=by
 unfold PreD
 rw[afterS_snoc]
 constructor
 ·rintro⟨q,a,y,r,k,h1,h2,h3,h4,h5⟩
  obtain⟨j,rfl,hj⟩:=(takes_bit (hF.mask a y h2) x).1 h3;exact⟨j,rfl,a,y,(hS a).2 h1,h2,hj⟩
 ·rintro⟨j,rfl,p,y,h1,h2,h3⟩
  (have h0:y.1≠0:=fun e=>by rw[e] at h3;simp at h3);obtain⟨q,e,_⟩:=hF.step h2 h0;exact⟨q,p,y,q,0,(hS p).1 h1,h2,(takes_bit (hF.mask p y h2) _).2 ⟨j,rfl,h3⟩,by rw[e];rfl,rfl⟩
end Go.Proofs.YtjkebndkeamijaaGreatDoor
