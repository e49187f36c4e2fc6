/-
  PROVED HERE: what the texts DANamesA, DANamesF, DARules, DAEvery, DABits6, DAListed6, DANexts6, DAFilledW say.
-/
import Derived.Test.YtjkebndkeamijaaGreatDoorCA16
import Derived.Laws.Cover3
set_option maxRecDepth 100000
set_option maxHeartbeats 1000000
namespace Go.Proofs.YtjkebndkeamijaaGreatDoor
open Go.RowKit
abbrev mD:Type:=ByteArray×Option Addr×Nat×List Int
def gCs (x:mD):List Value:=[.string x.1,.slice x.2.1 x.2.2.2.length x.2.2.1]
def rK:List mD->List Value
 | []=>[]
 | x::r=>gCs x++rK r
def iP (x:mD):Grp:=(x.1,x.2.2.2)
theorem gBn (l m:List mD):rK (l++m)=rK l++rK m:=by
 induction l with
 | nil=>rfl
 | cons e r ih=>rw[List.cons_append,rK,rK,ih,List.append_assoc]
theorem gPn:∀{l:List mD} {i:Nat} {e:mD},l[i]? = some e->(rK l)[i * 2]? = some (.string e.1)/\(rK l)[i * 2+1]? = some (.slice e.2.1 e.2.2.2.length e.2.2.1):=by
 intro l
 induction l with
 | nil=>intro i e h;simp at h
 | cons x r ih=>
  intro i e h;cases i with
  | zero=>
   simp only[List.getElem?_cons_zero,Option.some.injEq] at h;subst h;exact⟨rfl,rfl⟩
  | succ i=>
   rw[List.getElem?_cons_succ] at h;obtain⟨h1,h2⟩:=ih h;rw[rK];(have e1:(i+1) * 2=(gCs x).length+i * 2:=by simp only[gCs,List.length_cons,List.length_nil];omega);rw[e1,Nat.add_assoc,List.getElem?_append_right (Nat.le_add_right ..),List.getElem?_append_right (Nat.le_add_right ..),Nat.add_sub_cancel_left,Nat.add_sub_cancel_left];exact⟨h1,h2⟩
theorem gUs:(Tryz.prog.info? 63).map (fun i=>(i.zero,i.size,i.bytes))=some (some (.agg #[.string ⟨#[]⟩,.slice none 0 0]),2,40):=by kernel_rfl
def gEe (W:World)(x:mD):Prop:=W.ownsRow 0 3 1 (.slice x.2.1 x.2.2.2.length x.2.2.1) x.2.2.2.length (iG x.2.2.2)/\x.2.2.2.length<=1500000
structure Nms (base:Nat) (W:World) (v:Value) (xs:List mD):Prop where
 row:W.ownsRow base 63 2 v xs.length (rK xs)
 ok:∀x∈xs,gEe W x
theorem gEe.below {W W' : World}{x:mD}(h:gEe W x)(hB:Below W.heap.size W W'):gEe W' x:=⟨gF h.1 fun g hg=>hB.block g (gC h.1 hg).1,h.2⟩
theorem Nms.below {base:Nat}{W W' : World}{v:Value}{xs:List mD}(h:Nms base W v xs)(hB:Below W.heap.size W W'):Nms base W' v xs :=
 ⟨gF h.row fun g hg=>hB.block g (gC h.row hg).1,fun e he=>(h.ok e he).below hB⟩
theorem gPi:3≠63:=by decide
theorem k58{p:Prop}(h:p:=by
  obtain⟨g,cap', rfl,_⟩:=gY r1 (Nat.succ_pos _);refine⟨g,cap', W1,hrun,⟨by rw[List.length_append];exact r1,fun y hy=>?_⟩,r2⟩;rcases List.mem_append.1 hy with hy | hy
  ·exact keep y (h.ok y hy)
  ·rw[List.mem_singleton] at hy
   subst hy;exact keep _ hx
  ):p:=h
theorem Nms.put {base:Nat}{W:World}{v:Value}{xs:List mD}(h:Nms base W v xs)(x:mD)(hx:gEe W x)(hlen:xs.length<=1500000)(hbase:base<=W.heap.size)(b cap:Nat)(hc:∀j u,(gCs x)[j]? = some u->W.cell? ((⟨b,0,none⟩:Addr).add j)=some u) :
  ∃g' cap' W1,(Builtin.append_ #[39,39] 39 #[v,.slice (some ⟨b,0,none⟩) 1 cap]).run Tryz.prog W=.ok (.slice (some ⟨g', 0,none⟩) (xs.length+1) cap') W1/\Nms base W1 (.slice (some ⟨g', 0,none⟩) (xs.length+1) cap') (xs++[x])/\W.grownBy W1 v.ownBlock:=by
 obtain⟨i0,hi,hz0,hz1,hz2⟩:=info_parts gUs
 obtain⟨v', W1,hrun,r1,r2,_,_⟩:=run_append_own_at (P:=Tryz.prog) W base 39 39 63 i0 _ 2 40 Tryz.underlying39 hi hz0 hz1 hz2 rfl (by decide) v xs.length _ h.row ⟨b,0,none⟩ 1 cap (gCs x) rfl hc (fun u hu=>by
  simp only[gCs,List.mem_cons,List.not_mem_nil,or_false] at hu
  rcases hu with rfl | rfl<;>rfl) (by unfold maxLen;omega) oo hbase
 have e1:rK xs++gCs x=rK (xs++[x]):=by rw[gBn];simp[rK]
 rw[e1] at r1
 have keep:∀y,gEe W y->gEe W1 y:=fun y hy=>⟨gF hy.1 fun g hg' => by
  obtain⟨hl,cur,hcur⟩:=gC hy.1 hg';refine r2.block g hl (fun he=>?_);obtain⟨_,cur', hcur'⟩:=gC h.row he.symm;rw[hcur'] at hcur;(injection hcur with hk);injection hk with _ h2 _
  exact gPi h2.symm,hy.2⟩
 exact k58
theorem Nms.groups {base:Nat}{W:World}{g c:Nat}{n:Nat}{xs:List mD}(h:Nms base W (.slice (some ⟨g,0,none⟩) n c) xs)(hn:n=xs.length)(hlen:xs.length<=1500000):iS W (some ⟨g,0,none⟩) n (xs.map iP):=by
 subst hn
 refine⟨by rw[List.length_map],oo,?_⟩
 rcases Nat.eq_zero_or_pos xs.length with h0 | h0
 ·exact .inl h0
 ·obtain⟨g', cap', e,hc⟩:=gY h.row h0
  (injection e with e1);(injection e1 with e1);(injection e1 with e1);subst e1;refine .inr ⟨g,0,rfl,(gC h.row (g:=g) rfl).1,fun i y hy=>?_⟩;rw[List.getElem?_map] at hy;cases hx:xs[i]? with
  | none=>rw[hx] at hy;cases hy
  | some x=>
   rw[hx] at hy;cases hy;obtain⟨f1,f2⟩:=gPn hx;obtain⟨h1,h2⟩:=h.ok x (zzj hx);obtain⟨a', c', e,hints⟩:=pJ h1 oo;(injection e with e1);subst e1;rw[Nat.zero_add];exact⟨x.2.1,x.2.2.2.length,x.2.2.1,hc _ _ f1,hc _ _ f2,hints⟩
theorem yH (w:World)(x0 x1:Value)(t:TypeId):∀j u,[x0,x1][j]? = some u->(w.alloc (.cells #[x0,x1] t)).cell? ((⟨w.heap.size,0,none⟩:Addr).add j)=some u:=by
 intro j u hj
 have hadd:(⟨w.heap.size,0,none⟩:Addr).add j=⟨w.heap.size,j,none⟩:=by unfold Addr.add;split<;>simp_all
 rw[hadd]
 match j,hj with
 | 0,hj=>simp at hj;subst hj;simp
 | 1,hj=>simp at hj;subst hj;simp
theorem nO {w:World}{base:Nat}{e:TypeId}{sz:Nat}{v:Value}{n:Nat}{xs:List Value}(h:w.ownsRow base e sz v n xs):∃a c,v=.slice a n c:=by
 rcases h.2 with ⟨e,hn⟩ | ⟨g,cap,cur,e,_⟩
 ·exact⟨none,0,by rw[e,hn]⟩
 ·exact⟨_,_,e⟩
theorem gPs (a:Option Addr)(l c:Nat)(W:World):(binOp .eql 61 (.slice a l c) (.slice none 0 0)).run Tryz.prog W=.ok (.bool a.isNone) W:=by
 simp only[binOp]
 simp[run_equal_slice_nil W 61 _ a l c Tryz.underlying61]
theorem gLp (a:Option Addr)(len cap:Nat)(zs:List Int)(w:World)(hZ:kA w a len zs)(hlen:len<=1500000) :
  Calls Tryz.prog 88 #[.slice a len cap] w fun e w' => ∃a1 c1,e=.returned (.slice a1 len c1)/\w'.ownsRow w.heap.size 3 1 (.slice a1 len c1) len (iG zs)/\Below w.heap.size w w' := by
 cases a with
 | none=>
  have h0:len=0:=by
   rcases hZ.2.2 with h | ⟨b,o,e,_⟩
   ·exact h
   ·cases e
  subst h0;have hz:zs=[]:=List.length_eq_zero_iff.1 hZ.1;subst hz;have hq:=gPs none 0 cap w;have HE:Hid (w.ownsRow w.heap.size 3 1 (.slice none 0 0) 0 (iG [])/\Below w.heap.size w w):=⟨World.ownsRow_nil ..,zzd _ _⟩;clear hZ;go_enter Tryz.func88,Tryz.ntmps88;go_wp2;go_ret;exact⟨none,0,rfl,HE.out⟩
 | some ad=>
  have hq:=gPs (some ad) len cap w;have hB45:Below w.heap.size w (w.alloc (.cells #[] 3)):=(zzd _ w).alloc (zzb _) _;have HOWN0:Hid ((w.alloc (.cells #[] 3)).ownsRow w.heap.size 3 1 (.slice (some ⟨w.heap.size,0,none⟩) 0 0) 0 (iG [])):=gWt w w.heap.size (zzb _);have HXI5:Hid (kA (w.alloc (.cells #[] 3)) (some ad) len zs):=hZ.below hB45;have HB45:Hid (Below w.heap.size w (w.alloc (.cells #[] 3))):=hB45;(have hs1:0+len<=1000000000:=by omega);clear hZ hB45;go_enter Tryz.func88,Tryz.ntmps88
  go_wp2_with (first
   | (at_builtin;(refine kH rfl (.tmp 5) (.tmp 6) rfl w.heap.size _ 0 [] rfl HOWN0.out (some ad) len cap zs rfl (fun e=>by cases e) HXI5.out hs1 HB45.out.size ?_;intro v1 W6 hown1 hB56;rw[Nat.zero_add,List.nil_append] at hown1;obtain⟨ua1,uc1,rfl⟩:=nO hown1;have HE:Hid (W6.ownsRow w.heap.size 3 1 (.slice ua1 len uc1) len (iG zs)/\Below w.heap.size w W6):=⟨hown1,HB45.out.trans hB56⟩;clear hown1 hB56 HOWN0 HXI5))
   | fail)
  go_ret;exact⟨ua1,uc1,rfl,HE.out⟩
theorem Hid.mk_ {p:Prop}(h:p):Hid p:=h
def lR:ByteArray:=⟨#[116,101,120,116]⟩
def jE:Nat->List gV->List Grp
 | _,[]=>[]
 | i,s::r=>(s.name,[((i+1:Nat):Int)])::jE (i+1) r
def gJ (l:List gV)(gs:List Grp):List Grp:=(lR,[0])::(jE 0 l++gs)
theorem nB:∀(l:List gV) (i:Nat),(jE i l).length=l.length:=by
 intro l
 induction l with
 | nil=>intro i;rfl
 | cons s r ih=>intro i;rw[jE,List.length_cons,ih,List.length_cons]
theorem wD:∀(l:List gV) (i:Nat) (x:gV),jE i (l++[x])=jE i l++[(x.name,[((i+l.length+1:Nat):Int)])]:=by
 intro l
 induction l with
 | nil=>intro i x;simp[jE]
 | cons s r ih=>intro i x;rw[List.cons_append,jE,jE,ih,List.cons_append,List.length_cons];simp only[Nat.add_assoc,Nat.add_comm 1]
theorem gUk (W:World)(t:Int):(W.alloc (.cells #[.int .i64 t] 3)).ownsRow 0 3 1 (.slice (some ⟨W.heap.size,0,none⟩) 1 1) 1 (iG [t]):=⟨rfl,.inr ⟨W.heap.size,1,_,rfl,zzn _,World.alloc_heap_new W _,zzb _,by unfold maxLen;omega,rfl,rfl⟩⟩
theorem gDl (w:World):Nms w.heap.size ((w.alloc (.cells #[.int .i64 0] 3)).alloc (.cells #[.string lR,.slice (some ⟨w.heap.size,0,none⟩) 1 1] 63)) (.slice (some ⟨w.heap.size+1,0,none⟩) 1 1) [(lR,some ⟨w.heap.size,0,none⟩,1,[0])]:=by
 refine⟨⟨rfl,.inr ⟨w.heap.size+1,1,#[.string lR,.slice (some ⟨w.heap.size,0,none⟩) 1 1],rfl,oo,?_,zzb _,by unfold maxLen;omega,rfl,rfl⟩⟩,fun x hx=>?_⟩
 ·have:=World.alloc_heap_new (w.alloc (.cells #[.int .i64 0] 3)) (.cells #[.string lR,.slice (some ⟨w.heap.size,0,none⟩) 1 1] 63)
  rw[World.size_alloc] at this;exact this
 ·rw[List.mem_singleton] at hx
  subst hx;exact⟨World.ownsRow.alloc (gUk w 0) _,by show 1<=1500000;omega⟩
theorem gSj {w wr:World}{v:Value}{xs:List mD}{i:Nat}(h:Nms w.heap.size wr v xs)(hlen:xs.length<=100)(hB:Below w.heap.size w wr)(x:gV) :
  ∃g' cap' W1,(Builtin.append_ #[39,39] 39 #[v,.slice (some ⟨wr.heap.size+1+1,0,none⟩) 1 1]).run Tryz.prog (((wr.alloc (.cells #[.string x.name,.string x.expr,.bool x.leaf,.int .i64 x.marks,.int .i64 x.least,.int .i64 x.most,.bool x.lines] 34)).alloc (.cells #[.int .i64 (1+(i:Int))] 3)).alloc (.cells #[.string x.name,.slice (some ⟨wr.heap.size+1,0,none⟩) 1 1] 63))=.ok (.slice (some ⟨g', 0,none⟩) (xs.length+1) cap') W1/\Nms w.heap.size W1 (.slice (some ⟨g', 0,none⟩) (xs.length+1) cap') (xs++[(x.name,some ⟨wr.heap.size+1,0,none⟩,1,[1+(i:Int)])])/\Below w.heap.size w W1:=by
 obtain⟨W1,hW1⟩:∃W1,W1=wr.alloc (.cells #[.string x.name,.string x.expr,.bool x.leaf,.int .i64 x.marks,.int .i64 x.least,.int .i64 x.most,.bool x.lines] 34):=⟨_,rfl⟩
 have s1:W1.heap.size=wr.heap.size+1:=by rw[hW1,World.size_alloc]
 rw[<-hW1,<-s1]
 have hB1:Below wr.heap.size wr W1:=by rw[hW1];exact(zzd _ wr).alloc (zzb _) _
 clear hW1
 obtain⟨W2,hW2⟩:∃W2,W2=W1.alloc (.cells #[.int .i64 (1+(i:Int))] 3):=⟨_,rfl⟩
 have s2:W2.heap.size=W1.heap.size+1:=by rw[hW2,World.size_alloc]
 have hB2:Below wr.heap.size wr W2:=by rw[hW2];exact hB1.alloc hB1.size _
 have ho:W2.ownsRow 0 3 1 (.slice (some ⟨W1.heap.size,0,none⟩) 1 1) 1 (iG [1+(i:Int)]):=by rw[hW2];exact gUk W1 _
 rw[<-hW2,<-s2]
 clear hW2
 have hB3:Below wr.heap.size wr (W2.alloc (.cells #[.string x.name,.slice (some ⟨W1.heap.size,0,none⟩) 1 1] 63)):=hB2.alloc hB2.size _
 obtain⟨g', cap', Z,h1,h2,h3⟩:=(h.below hB3).put (x.name,some ⟨W1.heap.size,0,none⟩,1,[1+(i:Int)]) ⟨World.ownsRow.alloc ho _,by show 1<=1500000;omega⟩ oo (by have:=hB3.size;have:=hB.size;omega) W2.heap.size 1 (yH W2 _ _ _)
 have hBZ:=hB.trans (hB3.mono hB.size)
 exact⟨g', cap', Z,h1,h2,hBZ.grown h3 hBZ.size (fun k e=>iV h.row e)⟩
theorem gOl {w wr Y Y1:World}{v:Value}{xs:List mD}{x:Grp}{ta a1:Option Addr}{tl tc c1 b0:Nat}(h:Nms w.heap.size wr v xs)(hlen:xs.length<=100)(hB:Below w.heap.size w wr)(hx:x.2.length=tl)(htl:tl<=1500000)(hcl:Y.ownsRow b0 3 1 (.slice a1 tl c1) tl (iG x.2))(hBY:Below (wr.alloc (.cells #[.string x.1,.slice ta tl tc] 63)).heap.size (wr.alloc (.cells #[.string x.1,.slice ta tl tc] 63)) Y)(hY1:Y1=Y.alloc (.cells #[.string x.1,.slice a1 tl c1] 63)) :
  (Y1.cell? ⟨wr.heap.size,0,none⟩=some (.string x.1)/\Y1.cell? ⟨wr.heap.size,1,none⟩=some (.slice ta tl tc))/\∃g' cap' W1,(Builtin.append_ #[39,39] 39 #[v,.slice (some ⟨Y.heap.size,0,none⟩) 1 1]).run Tryz.prog Y1=.ok (.slice (some ⟨g', 0,none⟩) (xs.length+1) cap') W1/\(W1.cell? ⟨wr.heap.size,0,none⟩=some (.string x.1)/\W1.cell? ⟨wr.heap.size,1,none⟩=some (.slice ta tl tc))/\Nms w.heap.size W1 (.slice (some ⟨g', 0,none⟩) (xs.length+1) cap') (xs++[(x.1,a1,c1,x.2)])/\Below w.heap.size w W1:=by
 have hB1:Below wr.heap.size wr (wr.alloc (.cells #[.string x.1,.slice ta tl tc] 63)):=(zzd _ wr).alloc (zzb _) _
 have m0:(wr.alloc (.cells #[.string x.1,.slice ta tl tc] 63)).heap[wr.heap.size]? = some (.cells #[.string x.1,.slice ta tl tc] 63 (0,0)):=World.alloc_heap_new wr _
 have hlt0:wr.heap.size<(wr.alloc (.cells #[.string x.1,.slice ta tl tc] 63)).heap.size:=(zza.1 m0).1
 have mY:Y.heap[wr.heap.size]? = some (.cells #[.string x.1,.slice ta tl tc] 63 (0,0)):=(hBY.block _ hlt0).trans m0
 have hBYw:Below wr.heap.size wr Y:=hB1.trans (hBY.mono hB1.size)
 have hltY:wr.heap.size<Y.heap.size:=(zza.1 mY).1
 have mY1:Y1.heap[wr.heap.size]? = some (.cells #[.string x.1,.slice ta tl tc] 63 (0,0)):=by rw[hY1];exact(zzf Y _ _ hltY).trans mY
 have hB3:Below wr.heap.size wr Y1:=by rw[hY1];exact hBYw.alloc hBYw.size _
 have hok:gEe Y1 (x.1,a1,c1,x.2):=by
  refine⟨?_,by show x.2.length<=1500000;omega⟩
  show Y1.ownsRow 0 3 1 (.slice a1 x.2.length c1) x.2.length (iG x.2)
  rw[hx,hY1]
  have:=World.ownsRow.alloc hcl (.cells #[.string x.1,.slice a1 tl c1] 63)
  refine⟨this.1,?_⟩;rcases this.2 with h2 | ⟨g,cap,cur,h1,h2,h3⟩
  ·exact .inl h2
  ·exact .inr ⟨g,cap,cur,h1,zzn _,h3⟩
 obtain⟨g', cap', Z,h1,h2,h3⟩:=(h.below hB3).put (x.1,a1,c1,x.2) hok oo (by have:=hB3.size;have:=hB.size;omega) Y.heap.size 1 (by unfold gCs;dsimp only;rw[hx,hY1];exact yH Y _ _ _)
 have hBZ:=hB.trans (hB3.mono hB.size)
 have hc1:=fun j=>cell_of_row Y1 wr.heap.size j _ _ _ mY1
 have mZ:Z.heap[wr.heap.size]? = some (.cells #[.string x.1,.slice ta tl tc] 63 (0,0)):=by
  refine(h3.block _ (zza.1 mY1).1 (fun e=>?_)).trans mY1
  have:=(gC h.row e.symm).1
  omega
 have hcZ:=fun j=>cell_of_row Z wr.heap.size j _ _ _ mZ
 exact⟨⟨hc1 0,hc1 1⟩,g', cap', Z,h1,⟨hcZ 0,hcZ 1⟩,h2,hBZ.grown h3 hBZ.size (fun k e=>iV h.row e)⟩
theorem k138{p:Prop}(h:p:=by
  rw[List.length_map,List.length_cons,nB,List.length_take] at this
  have:=HLL.out.1
  omega
  ):p:=h
theorem k135{p:Prop}(h:p:=by
  rw[List.map_append,hnm,List.map_singleton,List.take_add_one,hx,List.cons_append,List.append_assoc]
  rfl
  ):p:=h
theorem gHu (a:Option Addr)(len cap:Nat)(l:List gV)(ga:Option Addr)(gl gc:Nat)(gs:List Grp)(w:World)(hl:rN w a len l)(hG:iS w ga gl gs)(hsz:len<=15)(hgz:gl<=16)(hts:∀x∈gs,x.2.length<=1500000) :
  Calls Tryz.prog 51 #[.slice a len cap,.slice ga gl gc] w fun e w' => ∃(g c:Nat) (xs:List mD),e=.returned (.slice (some ⟨g,0,none⟩) xs.length c)/\Nms w.heap.size w' (.slice (some ⟨g,0,none⟩) xs.length c) xs/\xs.map iP=gJ l gs/\Below w.heap.size w w' := by
 have HS:Hid (∀(X:World) (i:Nat),Below w.heap.size w X->i<len->∃b o x,a=some ⟨b,o,none⟩/\l[i]? = some x/\nH X b (o+i * 7) x):=fun X i hX hi=>by
  obtain⟨b,o,x,h1,_,h2,h3⟩:=hl.at hi;exact⟨b,o,x,h1,h2,h3 X hX⟩
 have HGG:Hid (∀(X:World) (i:Nat),Below w.heap.size w X->i<gl->∃b o x ta tl tc,ga=some ⟨b,o,none⟩/\gs[i]? = some x/\X.cell? ⟨b,o+i * 2,none⟩=some (.string x.1)/\X.cell? ⟨b,o+i * 2+1,none⟩=some (.slice ta tl tc)/\kA X ta tl x.2/\tl<=1500000):=fun X i hX hi=>by
  obtain⟨b,o,x,ta,tl,tc,h1,h2,h3,h4⟩:=hG.at hi;obtain⟨h5,h6⟩:=h4 X hX;exact⟨b,o,x,ta,tl,tc,h1,h2,h5,h6,h3.below hX,by have:=hts x (zzj h2);have:=h3.1;omega⟩
 have HLL:Hid (l.length=len/\gs.length=gl):=⟨hl.1,hG.1⟩
 have HB0:Hid (Below w.heap.size w ((w.alloc (.cells #[.int .i64 0] 3)).alloc (.cells #[.string lR,.slice (some ⟨w.heap.size,0,none⟩) 1 1] 63))):=((zzd _ w).alloc (zzb _) _).alloc (by simp) _
 have HO0:=Hid.mk_ (gDl w)
 have hsi:(len:Int)<=15:=by omega
 have hgi:(gl:Int)<=16:=by omega
 clear hl hG hts
 go_enter Tryz.func51,Tryz.ntmps51
 go_wp2
 go_loopg [5,15] (len+1) (fun gk u v wr=>∃(i:Nat) (g c:Nat) (xs:List mD),i<=len/\len<i+gk/\u=.slice (some ⟨g,0,none⟩) xs.length c/\v=.int .i64 (i:Int)/\Nms w.heap.size wr (.slice (some ⟨g,0,none⟩) xs.length c) xs/\xs.map iP=(lR,[0])::jE 0 (l.take i)/\Below w.heap.size w wr)
 case atStart=>exact⟨0,_,_,[(lR,some ⟨w.heap.size,0,none⟩,1,[0])],zzn _,oo,rfl,rfl,HO0.out,by rw[List.take_zero];rfl,HB0.out⟩
 case round=>
  obtain⟨i,g,c,xs,hi,hgk,rfl,rfl,hown,hnm,hB⟩:=hrel;clear HO0 HB0
  have hxl:xs.length=i+1:=by
   have:=congrArg List.length hnm
   exact k138
  by_cases hlt:i<len
  ·obtain⟨b,o,x,rfl,hx,c0,c1,c2,c3,c4,c5,c6⟩:=HS.out wr i hB hlt
   (have hii:(i:Int)<(len:Int):=by omega);(have hi0:(0:Int)<=(i:Int):=by omega);(have hd:decide ((i:Int)<(len:Int))=true:=by simpa using hii);obtain⟨g', cap', W1,hrun,hown', hBW⟩:=gSj (i:=i) hown oo hB x;have htk:l.take (i+1)=l.take i++[x]:=by rw[List.take_add_one,hx];rfl
   have HN:Hid (Nms w.heap.size W1 (.slice (some ⟨g', 0,none⟩) (xs++[(x.name,some (⟨wr.heap.size+1,0,none⟩:Addr),1,[1+(i:Int)])]).length cap') (xs++[(x.name,some ⟨wr.heap.size+1,0,none⟩,1,[1+(i:Int)])])/\(xs++[(x.name,some (⟨wr.heap.size+1,0,none⟩:Addr),1,[1+(i:Int)])]).map iP=(lR,[0])::jE 0 (l.take (i+1))/\Below w.heap.size w W1):=by
    refine⟨by rw[List.length_append];exact hown', ?_,hBW⟩;rw[htk,wD,List.map_append,hnm,List.map_singleton,List.cons_append];(have e1:(0+(l.take i).length+1:Nat)=1+i:=by rw[List.length_take];have:=HLL.out.1;omega);rw[e1]
    rfl
   have HRUN:=Hid.mk_ hrun;clear hown hB hBW hown' hrun htk HS hx hnm hxl
   go_wp2_with (first
    | (at_builtin;refine iW rfl (.tmp 20) (.tmp 27) 39 rfl _ _ _ _ rfl rfl HRUN.out ?_)
    | fail)
   go_roundg (len - i)
   case measure=>omega
   case rel=>exact⟨i+1,g', cap', _,oo,oo,by rw[List.length_append];rfl,by first | rfl | go_num,HN.out⟩
  ·obtain rfl:i=len:=by omega
   have hd:decide ((i:Int)<(i:Int))=false:=by simp
   have HI0:Hid (Nms w.heap.size wr (.slice (some ⟨g,0,none⟩) xs.length c) xs/\xs.map iP=(lR,[0])::(jE 0 l++gs.take 0)/\Below w.heap.size w wr):=by
    rw[zzm (by have:=HLL.out.1;omega)] at hnm;exact⟨hown,by rw[hnm,List.take_zero,List.append_nil],hB⟩
   clear hown hB HS hnm hgk hxl;go_wp2
   go_loopg [5,32] (gl+1) (fun gk u v wr=>∃(j:Nat) (g c:Nat) (xs:List mD),j<=gl/\gl<j+gk/\u=.slice (some ⟨g,0,none⟩) xs.length c/\v=.int .i64 (j:Int)/\Nms w.heap.size wr (.slice (some ⟨g,0,none⟩) xs.length c) xs/\xs.map iP=(lR,[0])::(jE 0 l++gs.take j)/\Below w.heap.size w wr)
   case atStart=>exact⟨0,g,c,xs,zzn _,oo,rfl,rfl,HI0.out⟩
   case round=>
    clear HI0;obtain⟨j,g,c,xs,hj,hgk,rfl,rfl,hown,hnm,hB⟩:=hrel
    have hxl:xs.length=i+1+j:=by
     have:=congrArg List.length hnm
     rw[List.length_map,List.length_cons,List.length_append,nB,List.length_take] at this
     have:=HLL.out.1
     have:=HLL.out.2
     omega
    by_cases hlt2:j<gl
    ·obtain⟨b,o,x,ta,tl,tc,rfl,hx,c0,c1,hti,htl⟩:=HGG.out wr j hB hlt2
     (have hii:(j:Int)<(gl:Int):=by omega);(have hj0:(0:Int)<=(j:Int):=by omega);(have hd2:decide ((j:Int)<(gl:Int))=true:=by simpa using hii);obtain⟨V0,hV0⟩:∃V0,V0=wr.alloc (.cells #[.string x.1,.slice ta tl tc] 63):=⟨_,rfl⟩;(have hBV:Below wr.heap.size wr V0:=by rw[hV0];exact(zzd _ wr).alloc (zzb _) _);(have m0:V0.heap[wr.heap.size]? = some (.cells #[.string x.1,.slice ta tl tc] 63 (0,0)):=by rw[hV0];exact World.alloc_heap_new wr _);have hlt0:wr.heap.size<V0.heap.size:=(zza.1 m0).1
     have HKS:Hid (∀X:World,Below V0.heap.size V0 X->X.cell? ⟨wr.heap.size,0,none⟩=some (.string x.1)/\X.cell? ⟨wr.heap.size,1,none⟩=some (.slice ta tl tc)):=fun X hX=>by
      have mX:=(hX.block _ hlt0).trans m0;(have hc:=fun q=>cell_of_row X wr.heap.size q _ _ _ mX);exact⟨hc 0,hc 1⟩
     (have HCL:Hid (∀X:World,Below V0.heap.size V0 X->Calls Tryz.prog 88 #[.slice ta tl tc] X fun e w' => ∃a1 c1,e=.returned (.slice a1 tl c1)/\w'.ownsRow X.heap.size 3 1 (.slice a1 tl c1) tl (iG x.2)/\Below X.heap.size X w'):=fun X hX=>gLp ta tl tc x.2 X (hti.below (hBV.trans (hX.mono hBV.size))) htl);have HVD:Hid (Below V0.heap.size V0 V0.drew):=(zzd _ _).drew
     have HPUT:Hid (∀(Y Y1:World) (a1:Option Addr) (c1:Nat),Y.ownsRow V0.drew.heap.size 3 1 (.slice a1 tl c1) tl (iG x.2)->Below V0.heap.size V0 Y->Y1=Y.alloc (.cells #[.string x.1,.slice a1 tl c1] 63)->(Y1.cell? ⟨wr.heap.size,0,none⟩=some (.string x.1)/\Y1.cell? ⟨wr.heap.size,1,none⟩=some (.slice ta tl tc))/\∃g' cap' W1,(Builtin.append_ #[39,39] 39 #[.slice (some ⟨g,0,none⟩) xs.length c,.slice (some ⟨Y.heap.size,0,none⟩) 1 1]).run Tryz.prog Y1=.ok (.slice (some ⟨g', 0,none⟩) (xs.length+1) cap') W1/\(W1.cell? ⟨wr.heap.size,0,none⟩=some (.string x.1)/\W1.cell? ⟨wr.heap.size,1,none⟩=some (.slice ta tl tc))/\Nms w.heap.size W1 (.slice (some ⟨g', 0,none⟩) (xs++[(x.1,a1,c1,x.2)]).length cap') (xs++[(x.1,a1,c1,x.2)])/\(xs++[(x.1,a1,c1,x.2)]).map iP=(lR,[0])::(jE 0 l++gs.take (j+1))/\Below w.heap.size w W1):=fun Y Y1 a1 c1 q1 q2 q3=>by
      have hgl:=HLL.out;obtain⟨r1,g', cap', W1,r2,r3,r4,r5⟩:=gOl (ta:=ta) (tc:=tc) hown oo hB hti.1 htl q1 (by rw[hV0] at q2;exact q2) q3;refine⟨r1,g', cap', W1,r2,r3,by rw[List.length_append];exact r4,?_,r5⟩;exact k135
     rw[hV0] at HKS HCL HVD HPUT;clear hown hB hnm hti htl hx m0 hlt0 hBV hV0 HGG hgi hxl;obtain⟨xn,xt⟩:=x;dsimp only at *;(go_wp2_with fail);refine wp_region_held_drew (S:=fun X=>X.cell? ⟨wr.heap.size,0,none⟩=some (.string xn)/\X.cell? ⟨wr.heap.size,1,none⟩=some (.slice ta tl tc)) hmx (HKS.out _ HVD.out) (fun hS=>?_);refine gA 0 (some 36) hS ?_;refine gA 1 (some 37) hS ?_;refine gA 2 (some 38) hS ?_ (hy:=by intro w hSw;obtain⟨k0,k1⟩:=hSw;go_simp;with_reducible rfl);refine gA 3 (some 39) hS ?_;refine gA 4 (some 40) hS ?_ (hy:=by intro w hSw;obtain⟨k0,k1⟩:=hSw;go_simp;with_reducible rfl);refine gT 5 kr rfl (fun K hK=>?_);rw[if_pos (by rfl)];go_simp;refine(HCL.out _ HVD.out).mono ?_;rintro e Y ⟨a1,c1,rfl,hcl,bY⟩;have HY:Hid (Y.ownsRow (wr.alloc (.cells #[.string xn,.slice ta tl tc] 63)).drew.heap.size 3 1 (.slice a1 tl c1) tl (iG xt)/\Below (wr.alloc (.cells #[.string xn,.slice ta tl tc] 63)).heap.size (wr.alloc (.cells #[.string xn,.slice ta tl tc] 63)) Y):=⟨hcl,HVD.out.trans (bY.mono HVD.out.size)⟩;clear hcl bY;have hS1:=HKS.out Y HY.out.2;refine hK.out _ _ hS1 (fun _=>?_);clear hK K
     try simp only[gQ]
     refine gA 6 (some 42) hS1 ?_;refine gT 7 kr rfl (fun K hK=>?_);rw[if_pos (by rfl)];go_simp;obtain⟨Y1,hY1⟩:∃Y1,Y.alloc (.cells #[.string xn,.slice a1 tl c1] 63)=Y1:=⟨_,rfl⟩;rw[hY1];have HP:=HPUT.out Y Y1 a1 c1 HY.out.1 HY.out.2 hY1.symm;clear hY1 HY;obtain⟨hS2,g2,cap2,Y2,hrun,hS3,hN⟩:=HP;have HRUN:=Hid.mk_ hrun;have HN:=Hid.mk_ hN;clear hrun hN;refine hK.out _ _ hS2 (fun _=>?_);clear hK K
     try simp only[gQ]
     refine gT 8 kr rfl (fun K hK=>?_);rw[if_pos (by rfl)];refine nS _ _ 39 rfl _ _ _ _ rfl rfl HRUN.out ?_;refine hK.out _ _ hS3 (fun _=>?_);clear hK K
     try simp only[Act.put,List.setIfInBounds_toArray]
     refine jQ 9 (some 5) (v:=?_) hS3 ?_ ?_
     rotate_left
     ·intro w hSw
      try go_simp
      with_reducible rfl
     try simp only[Act.put]
     refine wpAnyH_done kr ?_ _;go_wp2
     go_roundg (gl - j)
     case measure=>omega
     case rel=>exact⟨j+1,g2,cap2,xs++[(xn,a1,c1,xt)],oo,oo,by rw[List.length_append];rfl,by first | rfl | go_num,HN.out⟩
    ·obtain rfl:j=gl:=by omega
     have hd2:decide ((j:Int)<(j:Int))=false:=by simp
     have HE:Hid (Nms w.heap.size wr (.slice (some ⟨g,0,none⟩) xs.length c) xs/\xs.map iP=gJ l gs/\Below w.heap.size w wr):=by
      rw[zzm (by have:=HLL.out.2;omega)] at hnm;exact⟨hown,hnm,hB⟩
     clear hown hnm hB HGG hxl;go_wp2;go_ret;exact⟨g,c,xs,rfl,HE.out⟩
def okM (s:gV):Bool:=decide (0<=s.marks)&&decide (s.marks<=7)
def okN (s:gV):Bool:=decide (0<=s.least)&&decide (s.least<=s.most)&&decide (s.most<=15)
def okL (s:gV):Bool := !s.leaf||s.expr.toList.isEmpty
theorem k115{p:Prop}(h:p:=by
  go_enter Tryz.func53,Tryz.ntmps53;go_wp2;go_ret;exact⟨by simp,HR.out⟩
  ):p:=h
theorem wS (b o:Nat)(s:gV)(w:World)(h:nH w b o s):Calls Tryz.prog 53 #[.pointer (some ⟨b,o,none⟩)] w fun e w' => e=.returned (.bool (okM s))/\Below w.heap.size w w' := by
 obtain⟨_,_,_,c3,_,_,_⟩:=h
 have HR:Hid (Below w.heap.size w w):=zzd _ _
 have HD:Hid (Below w.heap.size w w.drew):=(zzd _ _).drew
 unfold okM
 by_cases d1:0<=s.marks
 ·by_cases d2:s.marks<=7
  ·have e1:decide (0<=s.marks)=true:=by simpa using d1
   (have e2:decide (s.marks<=7)=true:=by simpa using d2);go_enter Tryz.func53,Tryz.ntmps53;go_wp2;go_ret;exact⟨by simp[d1,d2],HR.out⟩
  ·have e1:decide (0<=s.marks)=true:=by simpa using d1
   (have e2:decide (s.marks<=7)=false:=by simpa using d2);exact k115
 ·have e1:decide (0<=s.marks)=false:=by simpa using d1
  exact k115
theorem k75{p:Prop}(h:p:=by
  go_enter Tryz.func54,Tryz.ntmps54;go_wp2
  go_quiet (fail)
  go_wp2;go_ret;exact⟨by simp[d1,d2,d3],⟨rfl,rfl,rfl,zzb _,fun _ _=>rfl⟩⟩
  ):p:=h
theorem gCr (b o:Nat)(s:gV)(w:World)(h:nH w b o s):Calls Tryz.prog 54 #[.pointer (some ⟨b,o,none⟩)] w fun e w' => e=.returned (.bool (okN s))/\Below w.heap.size w w' := by
 obtain⟨_,_,_,_,c4,c5,_⟩:=h
 have HR:Hid (∀X,Below w.heap.size w X->Below w.heap.size w X):=fun _ h=>h
 unfold okN
 by_cases d1:0<=s.least
 ·have e1:decide (0<=s.least)=true:=by simpa using d1
  by_cases d2:s.least<=s.most
  ·have e2:decide (s.least<=s.most)=true:=by simpa using d2
   by_cases d3:s.most<=15
   ·have e3:decide (s.most<=15)=true:=by simpa using d3
    exact k75
   ·have e3:decide (s.most<=15)=false:=by simpa using d3
    exact k75
  ·have e2:decide (s.least<=s.most)=false:=by simpa using d2
   go_enter Tryz.func54,Tryz.ntmps54;go_wp2
   go_quiet (fail)
   go_wp2;go_ret;exact⟨by first | (rw[e1,e2];rfl) | (simp;omega),⟨rfl,rfl,rfl,zzb _,fun _ _=>rfl⟩⟩
 ·have e1:decide (0<=s.least)=false:=by simpa using d1
  go_enter Tryz.func54,Tryz.ntmps54;go_wp2
  go_quiet (fail)
  go_wp2;go_ret;exact⟨by first | (rw[e1];rfl) | (simp;omega),⟨rfl,rfl,rfl,zzb _,fun _ _=>rfl⟩⟩
theorem k102{p:Prop}(h:p:=by
  rw[e];go_enter Tryz.func55,Tryz.ntmps55;go_wp2;go_ret;exact⟨by simp,HR.out⟩
  ):p:=h
theorem gBh (b o:Nat)(s:gV)(w:World)(h:nH w b o s):Calls Tryz.prog 55 #[.pointer (some ⟨b,o,none⟩)] w fun e w' => e=.returned (.bool (okL s))/\Below w.heap.size w w' := by
 obtain⟨_,c1,c2,_,_,_,_⟩:=h
 have HR:Hid (Below w.heap.size w w):=zzd _ _
 unfold okL
 generalize s.leaf=lf at *
 cases lf with
 | false=>
  go_enter Tryz.func55,Tryz.ntmps55;go_wp2;go_ret;exact⟨by simp,HR.out⟩
 | true=>
  by_cases d:s.expr.toList=[]
  ·have e:s.expr.toList.isEmpty=true:=by rw[d];rfl
   exact k102
  ·have e:s.expr.toList.isEmpty=false:=List.isEmpty_eq_false_iff.2 d
   exact k102
def gBy (w:World)(g:Nat)(ks:List gN):Prop:=g<w.heap.size/\∀(i:Nat) (x:gN),ks[i]? = some x->nH w g (i * 10) x.1
theorem gBy.below {w w' : World}{g:Nat}{ks:List gN}(h:gBy w g ks)(hB:Below w.heap.size w w'):gBy w' g ks :=
 ⟨zzl h.1 hB.size,fun i x hx=>(h.2 i x hx).same (hB.block g h.1)⟩
theorem gBe {w:World}{base g n c:Nat}{ks:List gN}(h:w.ownsRow base 81 10 (.slice (some ⟨g,0,none⟩) n c) ks.length (kJ ks)):gBy w g ks:=by
 refine⟨(gC h (g:=g) rfl).1,fun i x hx=>?_⟩
 have h0:0<ks.length:=by have:=(zzc.1 hx).1;omega
 obtain⟨g', cap', e,hc⟩:=gY h h0
 injection e with e1
 injection e1 with e1
 injection e1 with e1
 subst e1
 exact⟨hc _ _ (pE (j:=0) hx rfl),hc _ _ (pE (j:=1) hx rfl),hc _ _ (pE (j:=2) hx rfl),hc _ _ (pE (j:=3) hx rfl),hc _ _ (pE (j:=4) hx rfl),hc _ _ (pE (j:=5) hx rfl),hc _ _ (pE (j:=6) hx rfl)⟩
def okS (s:gV):Bool:=okM s&&(okN s&&okL s)
theorem k57{p:Prop}(h:p:=by
  have HF:Hid (((ks.drop 1).all fun x=>okS x.1)=false):=by
   refine List.all_eq_false.2 ⟨x,zzj (i:=i - 1) (by rw[List.getElem?_drop,show 1+(i - 1)=i by omega];exact HB.out.1),?_⟩;have hr:=HR.out;unfold okS;rw[hr]
   simp
  go_wp2;go_ret;exact⟨by rw[HF.out];rfl,HB1.out⟩
  ):p:=h
theorem gEo (B g c nn:Nat)(nv:Value)(ks:List gN)(w:World)(hs:w.heap[B]? = some (.cells #[.slice (some ⟨g,0,none⟩) ks.length c,nv] 86 (0,0)))(hk:gBy w g ks)(hf:w.heap[nn]? = some (.cells #[.func (.func 53) #[] #[],.func (.func 54) #[] #[],.func (.func 55) #[] #[]] 91 (0,0)))(hlen:ks.length<=100) :
  Calls Tryz.prog 52 #[.pointer (some ⟨B,0,none⟩),.slice (some ⟨nn,0,none⟩) 3 3] w fun e w' => e=.returned (.bool ((ks.drop 1).all fun x=>okS x.1))/\Below w.heap.size w w' := by
 have hB0:B<w.heap.size:=(zza.1 hs).1
 have hn0:nn<w.heap.size:=(zza.1 hf).1
 have HC:Hid (∀X,Below w.heap.size w X->X.cell? ⟨B,0,none⟩=some (.slice (some ⟨g,0,none⟩) ks.length c)/\X.cell? ⟨nn,0,none⟩=some (.func (.func 53) #[] #[])/\X.cell? ⟨nn,1,none⟩=some (.func (.func 54) #[] #[])/\X.cell? ⟨nn,2,none⟩=some (.func (.func 55) #[] #[])):=fun X hX=>by
  have h1:=fun j=>cell_of_row X B j _ _ _ ((hX.block _ hB0).trans hs)
  have h2:=fun j=>cell_of_row X nn j _ _ _ ((hX.block _ hn0).trans hf)
  exact⟨h1 0,h2 0,h2 1,h2 2⟩
 have HK:Hid (∀X,Below w.heap.size w X->∀(i:Nat) (x:gN),ks[i]? = some x->nH X g (i * 10) x.1):=fun X hX=>(hk.below hX).2
 have hli:(ks.length:Int)<=100:=by omega
 clear hs hk hf hB0 hn0
 go_enter Tryz.func52,Tryz.ntmps52
 go_wp2
 go_loopg [5] (ks.length+2) (fun gk v wr=>∃i:Nat,1<=i/\ks.length+1<i+gk/\(i<=ks.length\/i=1)/\v=.int .i64 (i:Int)/\(∀(j:Nat) (x:gN),1<=j->j<i->ks[j]? = some x->okS x.1=true)/\Below w.heap.size w wr)
 case atStart=>exact⟨1,oo,oo,.inr rfl,rfl,fun j x h1 h2=>by omega,zzd _ _⟩
 case round=>
  obtain⟨i,hi1,hgk,hi2,rfl,hT,hB⟩:=hrel;obtain⟨c0,f0,f1,f2⟩:=HC.out wr hB
  by_cases hlt:i<ks.length
  ·obtain⟨x,hx⟩:∃x,ks[i]? = some x:=⟨_,zze hlt⟩
   (have hii:(i:Int)<(ks.length:Int):=by omega);(have hi0:(0:Int)<=(i:Int):=by omega);(have hdi:decide ((i:Int)<(ks.length:Int))=true:=by simpa using hii);(have HSP:Hid (∀X,Below w.heap.size w X->nH X g (i * 10) x.1):=fun X hX=>HK.out X hX i x hx);have HB:Hid (ks[i]? = some x/\(∀(j:Nat) (x:gN),1<=j->j<i->ks[j]? = some x->okS x.1=true)/\Below w.heap.size w wr):=⟨hx,hT,hB⟩;have HM1:=wS g (i * 10) x.1 wr (HSP.out wr hB);clear hT hB hx HK;go_wp2;clear HM1 c0 f0 f1 f2
   go_loopg [19] 4 (fun gk v wr=>∃j:Nat,j<=3/\3<j+gk/\v=.int .i64 (j:Int)/\(1<=j->okM x.1=true)/\(2<=j->okN x.1=true)/\(3<=j->okL x.1=true)/\Below w.heap.size w wr)
   case atStart=>exact⟨0,oo,oo,rfl,fun h=>by omega,fun h=>by omega,fun h=>by omega,HB.out.2.2⟩
   case round=>
    obtain⟨j,hj,hgk2,rfl,t1,t2,t3,hBr⟩:=hrel;obtain rfl | rfl | rfl | rfl:j=0\/j=1\/j=2\/j=3:=by omega
    ·have HM:=wS g (i * 10) x.1 wr (HSP.out wr hBr)
     obtain⟨c0,f0,f1,f2⟩:=HC.out wr hBr;have HBr:Hid (Below w.heap.size w wr/\(1<=0->okM x.1=true)/\(2<=0->okN x.1=true)/\(3<=0->okL x.1=true)):=⟨hBr,t1,t2,t3⟩;obtain⟨r,hr⟩:∃r,okM x.1=r:=⟨_,rfl⟩;rw[hr] at HM;have HR:Hid (okM x.1=r):=hr;clear hBr t1 t2 t3 hr;(go_wp2_with fail);refine HM.mono ?_;rintro e W1 ⟨rfl,hB1⟩;have HB1:Hid (Below w.heap.size w W1):=HBr.out.1.trans (hB1.mono HBr.out.1.size);clear hB1 HM;cases r with
     | true=>
      go_wp2
      go_roundg (3 - 0)
      case measure=>omega
      case rel=>exact⟨0+1,oo,oo,by first | rfl | go_num,fun _=>HR.out,fun h=>HBr.out.2.2.1 oo,fun h=>HBr.out.2.2.2 oo,HB1.out⟩
     | false=>
      exact k57
    ·have HM:=gCr g (i * 10) x.1 wr (HSP.out wr hBr)
     obtain⟨c0,f0,f1,f2⟩:=HC.out wr hBr;have HBr:Hid (Below w.heap.size w wr/\(1<=1->okM x.1=true)/\(2<=1->okN x.1=true)/\(3<=1->okL x.1=true)):=⟨hBr,t1,t2,t3⟩;obtain⟨r,hr⟩:∃r,okN x.1=r:=⟨_,rfl⟩;rw[hr] at HM;have HR:Hid (okN x.1=r):=hr;clear hBr t1 t2 t3 hr;(go_wp2_with fail);refine HM.mono ?_;rintro e W1 ⟨rfl,hB1⟩;have HB1:Hid (Below w.heap.size w W1):=HBr.out.1.trans (hB1.mono HBr.out.1.size);clear hB1 HM;cases r with
     | true=>
      go_wp2
      go_roundg (3 - 1)
      case measure=>omega
      case rel=>exact⟨1+1,oo,oo,by first | rfl | go_num,fun h=>HBr.out.2.1 oo,fun _=>HR.out,fun h=>HBr.out.2.2.2 oo,HB1.out⟩
     | false=>
      exact k57
    ·have HM:=gBh g (i * 10) x.1 wr (HSP.out wr hBr)
     obtain⟨c0,f0,f1,f2⟩:=HC.out wr hBr;have HBr:Hid (Below w.heap.size w wr/\(1<=2->okM x.1=true)/\(2<=2->okN x.1=true)/\(3<=2->okL x.1=true)):=⟨hBr,t1,t2,t3⟩;obtain⟨r,hr⟩:∃r,okL x.1=r:=⟨_,rfl⟩;rw[hr] at HM;have HR:Hid (okL x.1=r):=hr;clear hBr t1 t2 t3 hr;(go_wp2_with fail);refine HM.mono ?_;rintro e W1 ⟨rfl,hB1⟩;have HB1:Hid (Below w.heap.size w W1):=HBr.out.1.trans (hB1.mono HBr.out.1.size);clear hB1 HM;cases r with
     | true=>
      go_wp2
      go_roundg (3 - 2)
      case measure=>omega
      case rel=>exact⟨2+1,oo,oo,by first | rfl | go_num,fun h=>HBr.out.2.1 oo,fun h=>HBr.out.2.2.1 oo,fun _=>HR.out,HB1.out⟩
     | false=>
      exact k57
    ·have HN:Hid ((∀(j:Nat) (x:gN),1<=j->j<i+1->ks[j]? = some x->okS x.1=true)/\Below w.heap.size w wr):=by
      refine⟨fun q y h1 h2 hy=>?_,hBr⟩
      by_cases e:q=i
      ·subst e
       rw[HB.out.1] at hy;cases hy;unfold okS;rw[t1 oo,t2 oo,t3 oo]
       rfl
      ·exact HB.out.2.1 q y h1 oo hy
     clear hBr t1 t2 t3;go_wp2
     go_roundg (ks.length+1 - i)
     case measure=>omega
     case rel=>exact⟨i+1,oo,oo,.inl oo,by first | rfl | go_num,HN.out⟩
  ·have hdi:decide ((i:Int)<(ks.length:Int))=false:=by simp;omega
   have HE:Hid (((ks.drop 1).all fun x=>okS x.1)=true/\Below w.heap.size w wr):=⟨by
    rw[List.all_eq_true];intro x hx;obtain⟨j,hj⟩:=List.getElem?_of_mem hx;rw[List.getElem?_drop] at hj
    exact hT (1+j) x oo (by have:=(zzc.1 hj).1;omega) hj,hB⟩
   clear hT hB HK HC;go_wp2;go_ret;exact⟨by rw[HE.out.1];rfl,HE.out.2⟩
theorem hEq:∀(b m:Nat),m<=b->m≠0->∃k q,m=2 ^ k * (2 * q+1):=by
 intro b
 induction b with
 | zero=>intro m h1 h2;omega
 | succ b ih=>
  intro m h1 h2;rcases Nat.mod_two_eq_zero_or_one m with h | h
  ·obtain⟨k,q,e⟩:=ih (m / 2) oo oo
   refine⟨k+1,q,?_⟩
   have:m=2 * (m / 2):=by omega
   rw[this,e,Nat.pow_succ,Nat.mul_comm (2 ^ k) 2,Nat.mul_assoc]
  ·exact⟨0,m / 2,oo⟩
theorem gYo {m j:Nat}(h:m<65536)(hj:m.testBit j=true):j<16:=by
 rcases Nat.lt_or_ge j 16 with e | e
 ·exact e
 ·have:m<2 ^ j:=zzl h (Nat.pow_le_pow_right (n:=2) (by decide) e)
  rw[Nat.testBit_lt_two_pow this] at hj;cases hj
def rQ (gs:List Grp)(n:Nat)(t:DataW Unit)(zs:List Int):Prop:=∃q,jU (kC gs n t) (kP (kC gs n t) (rP gs n t)) zs q
def pZ (gs:List Grp)(n:Nat)(t:DataW Unit)(zs:List Int)(i:Nat):Prop:=i<=zs.length/\rQ gs n t (zs.take i)/\(i<zs.length->¬rQ gs n t (zs.take (i+1)))
theorem gGa {gs:List Grp}{n:Nat}{t:DataW Unit}{xs ys:List Int}(h:rQ gs n t (xs++ys)):rQ gs n t xs:=by
 unfold rQ at h ⊢
 obtain⟨q,hq⟩:=h
 apply Classical.byContradiction
 intro hn
 have:∀p,¬jU (kC gs n t) (kP (kC gs n t) (rP gs n t)) xs p:=fun p hp=>hn ⟨p,hp⟩
 have h2:=gBv (F:=kC gs n t) this ys q
 unfold jU at hq h2
 rw[List.foldl_append] at hq
 exact h2 hq
theorem gMd (n:Nat)(t:DataW Unit)(v:Value)(ga:Option Addr)(gl gc:Nat)(gs:List Grp)(za:Option Addr)(zl zc:Nat)(zs:List Int)(w:World)(h:Ex w n t v)(hN:oG n t)(hG:iS w ga gl gs)(hZ:kA w za zl zs)(hc:chk n t gs=0) :
  Calls Tryz.prog 134 #[v,.slice ga gl gc,.slice za zl zc] w fun e w' => ∃i:Nat,e=.returned (.int .i64 (i:Int))/\pZ gs n t zs i/\Below w.heap.size w w' := by
 have hb0:∀o,Below w.heap.size w (w.alloc o):=fun o=>(zzd _ w).alloc (zzb _) _
 have HW:Hid (∀o,Calls Tryz.prog 86 #[v,.slice ga gl gc,.slice za zl zc] (w.alloc o) fun e w' => ∃(Bw:Nat) (i:Nat),e=.returned (.tuple #[.pointer (some ⟨Bw,0,none⟩),.int .i64 (i:Int)])/\pZ gs n t zs i/\Below w.heap.size w w'):=fun o=>by
  refine(gAl n t v ga gl gc gs za zl zc zs (w.alloc o) (Ex.below (hb0 o) _ _ _ h) hN (hG.below (hb0 o)) (hZ.below (hb0 o)) hc).mono ?_;rintro e W ⟨Bw,S,i,rfl,_,⟨r1,r2,r3⟩,hB⟩;refine⟨Bw,i,rfl,⟨r1,r2,fun hi hp=>?_⟩,(hb0 o).trans (hB.mono (by simp))⟩;rcases r3 with ⟨e,_⟩ | ⟨_,_,e⟩
  ·omega
  ·obtain⟨q,hq⟩:=hp
   exact e q hq
 obtain⟨k,s,a,len,cap,rfl⟩:∃k s a len cap,v=.agg #[.int .i64 k,.string s,.slice a len cap]:=by
  exact k130
 clear h hN hG hZ hc hb0
 go_enter Tryz.func134,Tryz.ntmps134
 go_wp2_with fail
 refine(HW.out _).mono ?_
 rintro e W ⟨Bw,i,rfl,hL,hB⟩
 have HE:Hid (pZ gs n t zs i/\Below w.heap.size w W):=⟨hL,hB⟩
 clear hL hB HW
 go_wp2
 go_ret
 exact⟨i,rfl,HE.out⟩
theorem uN (s:ByteArray):oG 200 (gO s):=by
 unfold gO
 cases h:rX s with
 | none=>exact vN
 | some t=>
  show oG 200 t
  unfold rX at h
  split at h
  ·cases h
  ·rename_i hs
   split at h
   ·cases h
   ·rename_i t' hr
    split at h
    ·cases h
     unfold nQ at hr
     split at hr
     ·cases hr
      exact vN
     ·split at hr
      ·rename_i t2 ha
       cases hr;exact(gAe _ _ _ _ ha (by rw[oP];omega)).1 200
      ·cases hr
    ·cases h
end Go.Proofs.YtjkebndkeamijaaGreatDoor
