/-
  PROVED HERE: what the texts DACaretB, DACaretV, DACaretG say.
-/
import Derived.Test.YtjkebndkeamijaaGreatDoorCA25
import Derived.WalkMore
import Derived.RegionIn
set_option maxRecDepth 100000
set_option maxHeartbeats 4000000
namespace Go.Proofs.YtjkebndkeamijaaGreatDoor
open Go.RowKit Go.Shelf
attribute [local go_sem] Oper.semAt_some
theorem gYp (F:Fence)(n:Nat)(h30:F.fn 67)(hro:F.round=none)(B:Nat)(a:Option Addr)(len cap:Nat)(p y:Int)(w:World) :
  CallsIn F n Tryz.prog 67 #[.pointer (some ⟨B,0,none⟩),.slice a len cap,.int .i64 p,.int .i64 y] w fun e w' => e=.returned (.func (.func 100) #[] #[.pointer (some ⟨w.heap.size,0,none⟩),.pointer (some ⟨w.heap.size+1,0,none⟩),.pointer (some ⟨w.heap.size+1+1,0,none⟩),.pointer (some ⟨w.heap.size+1+1+1,0,none⟩)]) ∧
   w' = (((w.alloc (.cells #[.pointer (some ⟨B,0,none⟩)] 24)).alloc (.cells #[.slice a len cap] 22)).alloc (.cells #[.int .i64 p] 3)).alloc (.cells #[.int .i64 y] 3):=by
 refine callsIn_of_wp Tryz.func67 rfl h30 ?_ hro
 simp only[Tryz.ntmps67,List.size_toArray,List.length_cons,List.length_nil,Nat.reduceAdd,Nat.reduceSub,Array.replicate_succ,Array.replicate_zero,List.push_toArray,List.append_toArray,List.nil_append,List.cons_append]
 gi_wp2
 go_ret
 exact⟨rfl,rfl⟩
def KpD (n₀ m:Nat)(W W' : World):Prop:=Below n₀ W W' /\ ∀k,m<=k->k<=m+1+1+1->W'.heap[k]? = W.heap[k]?
def zN (W:World)(m B:Nat)(a:Option Addr)(len cap:Nat)(p y:Int):Prop:=W.heap[m]? = some (.cells #[.pointer (some ⟨B,0,none⟩)] 24 (0,0))/\W.heap[m+1]? = some (.cells #[.slice a len cap] 22 (0,0))/\W.heap[m+1+1]? = some (.cells #[.int .i64 p] 3 (0,0))/\W.heap[m+1+1+1]? = some (.cells #[.int .i64 y] 3 (0,0))
theorem zN.kp {W W' : World}{m B:Nat}{a:Option Addr}{len cap:Nat}{p y:Int}(h:zN W m B a len cap p y)(k:∀k,m<=k->k<=m+1+1+1->W'.heap[k]? = W.heap[k]?):zN W' m B a len cap p y:=⟨(k _ oo oo).trans h.1,(k _ oo oo).trans h.2.1,(k _ oo oo).trans h.2.2.1,(k _ oo oo).trans h.2.2.2⟩
theorem zN.at_ {W:World}{m B:Nat}{a:Option Addr}{len cap:Nat}{p y:Int}(h:zN W m B a len cap p y):W.cell? ⟨m,0,none⟩=some (.pointer (some ⟨B,0,none⟩))/\W.cell? ⟨m+1,0,none⟩=some (.slice a len cap)/\W.cell? ⟨m+1+1,0,none⟩=some (.int .i64 p)/\W.cell? ⟨m+1+1+1,0,none⟩=some (.int .i64 y):=⟨(jS h.1).1,(jS h.2.1).1,(jS h.2.2.1).1,(jS h.2.2.2).1⟩
theorem zN.lt {W:World}{m B:Nat}{a:Option Addr}{len cap:Nat}{p y:Int}(h:zN W m B a len cap p y):m+1+1+1<W.heap.size:=(zza.1 h.2.2.2).1
def yA (F:Int->Bool)(y:Int)(k:Nat)(p:Int):List (Int×Bool):=(sD y k p).map fun q=>(q,F q)
theorem gYq (F:Int->Bool)(y:Int)(k:Nat)(p:Int):yA F y (k+1) p=yA F y k p++[(p+y * ((k:Int)+1),F (p+y * ((k:Int)+1)))]:=by unfold yA;rw[gJp,List.map_append];rfl
theorem hFh (F:Int->Bool)(y:Int){k n:Nat}(h:k<=n)(p:Int):yA F y k p <+: yA F y n p:=by
 obtain⟨d,rfl⟩:∃d,n=k+d:=⟨n - k,oo⟩
 unfold yA
 rw[gBr,List.map_append]
 exact List.prefix_append _ _
theorem gQb (F:Int->Bool)(y:Int)(k:Nat)(p:Int):(yA F y k p).length=k:=by unfold yA;rw[List.length_map,gDz]
theorem k103{p:Prop}(h:p:=by
  rw[<-HSU.out] at hJx4;clear hY2
  gi_wp2
  refine bodyPost_ret (results_none rfl _ _ _) rfl ?_;exact⟨⟨_,rfl⟩,.inr ⟨_,HPX.out,hJx4⟩⟩
  ):p:=h
theorem k71{p:Prop}(h:p:=by
  have HJ4:=jG hJ4;obtain⟨s0,s1,s2,s3⟩:=HV4.out.at_;clear hY2 hk4 hJ4
  gi_wp2
  go_roundw
  case rel=>exact⟨k+1,hlt,by rw[HK1.out],by rw[HNX.out],HJ4.out,HB4.out,HV4.out⟩
  case measure=>exact HME.out
  ):p:=h
theorem gTt (n:Nat)(hn:1<=n)(li m B:Nat)(a:Option Addr)(len cap:Nat)(l:List Tok)(p y:Int)(hy:y=1\/y = -1)(hp:0<=p/\p<=(len:Int))(hs:len<=2048)(F:Int->Bool)(w:World)(hM:gQp w B a len cap F)(hT:mC w a len l)
  (hsame:∀(i:Nat) (x:Tok),l[i]? = some x->x.k=0->F ((i:Int)+1)=F (i:Int)) (J Jx:List (Int×Bool)->World->Prop) (W:World) (hJ:AbidesFrom W.heap.size J)
  (hY:∀pre q W1,J pre W1->pre.length<len+1->YieldAt Fence.wide (n - 1) Tryz.prog li (#[.int .i64 q.1,.bool q.2]) W1 fun e W' =>
   (e=.returned (.bool true)/\J (pre++[q]) W' /\ KpD w.heap.size m W1 W')\/(e=.returned (.bool false)/\Jx (pre++[q]) W'))
  (hW:Below w.heap.size w W)(hv:zN W m B a len cap p y)(h0:J [] W) :
  CallsIn Fence.wide n Tryz.prog 100 #[.func (.yield li) #[] #[],.pointer (some ⟨m,0,none⟩),.pointer (some ⟨m+1,0,none⟩),.pointer (some ⟨m+1+1,0,none⟩),.pointer (some ⟨m+1+1+1,0,none⟩)] W fun e W' => (∃v,e=.returned v) ∧
   ((∃ys,ys=yA F y (rC len p y) p/\J ys W')\/(∃pre,pre <+: yA F y (rC len p y) p/\Jx pre W')):=by
 refine callsIn_of_wp Tryz.func100 rfl trivial ?_ rfl
 simp only[Tryz.ntmps100,List.size_toArray,List.length_cons,List.length_nil,Nat.reduceAdd,Nat.reduceSub,Array.replicate_succ,Array.replicate_zero,List.push_toArray,List.append_toArray,List.nil_append,List.cons_append]
 have HY:Hid (∀pre q W1,J pre W1->pre.length<len+1->YieldAt Fence.wide (n - 1) Tryz.prog li (#[.int .i64 q.1,.bool q.2]) W1 fun e W' =>
   (e=.returned (.bool true)/\J (pre++[q]) W' /\ KpD w.heap.size m W1 W')\/(e=.returned (.bool false)/\Jx (pre++[q]) W')):=hY
 have HJ:Hid (∀s X X', J s X->Below X.heap.size X X' -> J s X'):=fun s X X' h hB=>hJ s X X' none h ⟨hB.os,hB.tape,hB.output,hB.size,fun k hk _=>hB.block k hk⟩ (fun r e=>by cases e)
 have HPL:Hid (∀(d:Nat) (q:Int) (X:World),CallsIn Fence.wide d Tryz.prog 98 #[.int .i64 (len:Int),.int .i64 q] X fun e w' => e=.returned (.bool (mS len q))/\w' = X):=fun _ q X=>callsIn_wide.2 (uI len q X)
 have HM:Hid (∀(d:Nat) (q:Int) (X:World),Below w.heap.size w X->CallsIn Fence.wide d Tryz.prog 14 #[.pointer (some ⟨B,0,none⟩),.slice a len cap,.int .i64 q,.int .i64 0] X fun e X' => e=.returned (.bool (F q))/\Below X.heap.size X X'):=fun _ q X hX=>callsIn_wide.2 (hM X hX q)
 have HT:=jG hT
 have HSM:=jG hsame
 have hfn:Fence.wide.fn 98:=trivial
 have hfm:Fence.wide.fn 14:=trivial
 obtain⟨v0,v1,v2,v3⟩:=hv.at_
 have hlt0:=hv.lt
 have HV:=jG hv
 have HW0:=jG hW
 have HJ0:=jG h0
 clear hv hY hJ hM hT hsame hW h0
 have hyp : -2048<=p+y/\p+y<=4096:=by rcases hy with rfl | rfl<;>omega
 gi_wp2_with (gi_at_call 14;refine(HM.out _ p _ HW0.out).mono ?_;rintro e X ⟨rfl,hX⟩;obtain⟨x0,x1,x2,x3⟩:=(HV.out.kp (fun k h1 h2=>hX.block k oo)).at_)
 have HX:=jG (And.intro (HJ.out _ _ _ HJ0.out hX) (And.intro (HW0.out.trans (hX.mono HW0.out.size)) (HV.out.kp (fun k h1 h2=>hX.block k oo))))
 clear HJ0 hX HW0 HV v0 v1 v2 v3 x0 x1 x2 x3
 gi_loopw [6,7] (fun u q wr=>∃k:Nat,k<=rC len p y/\u=.bool (F (p+y * (k:Int)))/\q=.int .i64 (p+y * ((k:Int)+1))/\J (yA F y k p) wr/\Below w.heap.size w wr/\zN wr m B a len cap p y) (fun _ q _=>if y<0 then (intOf q+1).toNat else ((len:Int)+1 - intOf q).toNat)
 case atStart=>exact⟨0,oo,by rw[Int.natCast_zero,Int.mul_zero,Int.add_zero],by rw[Int.natCast_zero,Int.zero_add,Int.mul_one],HX.out.1,HX.out.2.1,HX.out.2.2⟩
 case round=>
  obtain⟨k,hk,rfl,rfl,hJs,hB,hvr⟩:=hrel;obtain⟨r0,r1,r2,r3⟩:=hvr.at_;have hlr:=hvr.lt;have HVR:=jG hvr;have HJS:=jG hJs;have HBR:=jG hB;clear hvr hJs hB HX
  by_cases hlt:k<rC len p y
  ·have hpl:=(hFg hy (jM.2 hp) hlt).1
   have hpb:=jM.1 hpl;have HSU:=jG (gYq F y k p);have HPX:=jG (hFh F y (show k+1<=rC len p y from hlt) p)
   have HLN:=jG (show (yA F y k p).length<len+1 from by
    rw[gQb];unfold rC at hlt
    split at hlt<;>omega)
   (have hprev:p+y * ((k:Int)+1) - y=p+y * (k:Int):=by rw[Int.mul_add];omega);(have HNX:Hid (p+y * (((k+1:Nat):Int)+1)=p+y * ((k:Int)+1)+y):=by show _=_;rw[Int.natCast_add,Int.natCast_one,Int.mul_add,Int.mul_add];omega);have HK1:=jG (show p+y * ((k+1:Nat):Int)=p+y * ((k:Int)+1) from rfl)
   obtain⟨i,hi,hil⟩:∃i:Nat,min (p+y * ((k:Int)+1)) (p+y * ((k:Int)+1) - y)=(i:Int)/\i<len:=by
    refine⟨(min (p+y * ((k:Int)+1)) (p+y * ((k:Int)+1) - y)).toNat,?_,?_⟩
    ·rcases hy with rfl | rfl<;>omega
    ·rcases hy with rfl | rfl<;>omega
   obtain⟨b,o,x,rfl,hbl,hxl,hc⟩:=HT.out.token hil;obtain⟨c0,_,_,_⟩:=hc wr HBR.out
   have HF0:Hid (x.k=0->F (p+y * (k:Int))=F (p+y * ((k:Int)+1))):=fun h=>by
    have:=HSM.out i x hxl h
    rcases hy with rfl | rfl
    ·rw[show (i:Int)+1=p+1 * ((k:Int)+1) by omega,show (i:Int)=p+1 * (k:Int) by omega] at this
     exact this.symm
    ·rw[show (i:Int)+1=p + -1 * (k:Int) by omega,show (i:Int)=p + -1 * ((k:Int)+1) by omega] at this
     exact this
   have HME:=jG (show (if y<0 then (p+y * ((k:Int)+1)+y+1).toNat else ((len:Int)+1 - (p+y * ((k:Int)+1)+y)).toNat)<(if y<0 then (p+y * ((k:Int)+1)+1).toNat else ((len:Int)+1 - (p+y * ((k:Int)+1))).toNat) from by
    rcases hy with rfl | rfl
    ·rw[if_neg oo,if_neg oo];omega
    ·rw[if_pos oo,if_pos oo];omega)
   (have hyb : -1<=y/\y<=1:=by rcases hy with rfl | rfl<;>omega);(have hiI:(i:Int)<(len:Int):=by omega);generalize p+y * ((k:Int)+1)=P at *;generalize p+y * (k:Int)=P0 at *;(have hli:(len:Int)<=2048:=by omega);(have hbb:y - 1<=0:=by omega);clear hc hxl hprev
   by_cases h0:x.k=0
   ·rw[h0] at c0
    have hf:=HF0.out h0;rw[hf];obtain⟨fn,tmps,assign,body,hy2,hY2⟩:=HY.out _ (P,F P) _ HJS.out HLN.out
    gi_wp2_with (gi_at_call 98;refine(HPL.out _ P _).mono ?_;rintro e X ⟨rfl,rfl⟩;rw[hpl])
    refine hY2.mono ?_;rintro e W4 (⟨rfl,hJ4,hk4⟩ | ⟨rfl,hJx4⟩)
    ·rw[<-HSU.out] at hJ4
     have HV4:=jG ((HVR.out).kp hk4.2);have HB4:=jG ((HBR.out).trans hk4.1);exact k71
    ·exact k103
   ·have hne:(x.k != 0)=true:=by simpa using h0
    generalize x.k=xk at *
    gi_wp2_with (first | (gi_at_call 98;refine(HPL.out _ P _).mono ?_;rintro e X ⟨rfl,rfl⟩;rw[hpl]) | (gi_at_call 14;refine(HM.out _ P _ HBR.out).mono ?_;rintro e Y ⟨rfl,hY⟩;obtain⟨fn,tmps,assign,body,hy2,hY2⟩:=HY.out _ (P,F P) _ (HJ.out _ _ _ HJS.out hY) HLN.out))
    have HVY:=jG (HVR.out.kp (fun k h1 h2=>hY.block k oo));have HBY:=jG (HBR.out.trans (hY.mono HBR.out.size));clear hY;refine hY2.mono ?_;rintro e W4 (⟨rfl,hJ4,hk4⟩ | ⟨rfl,hJx4⟩)
    ·rw[<-HSU.out] at hJ4
     have HV4:=jG ((HVY.out).kp hk4.2);have HB4:=jG ((HBY.out).trans hk4.1);exact k71
    ·exact k103
  ·obtain rfl:k=rC len p y:=by omega
   have hpl:mS len (p+y * (((rC len p y:Nat):Int)+1))=false:=by
    rw[Bool.eq_false_iff];intro h;rw[jM] at h;unfold rC at h;rcases hy with rfl | rfl
    ·rw[if_neg (by decide)] at h;omega
    ·rw[if_pos (by decide)] at h;omega
   generalize p+y * (((rC len p y:Nat):Int)+1)=P at *
   gi_wp2_with (gi_at_call 98;refine(HPL.out _ P _).mono ?_;rintro e X ⟨rfl,rfl⟩;rw[hpl])
   go_end0
   exact⟨⟨_,rfl⟩,Or.inl ⟨_,rfl,HJS.out⟩⟩
end Go.Proofs.YtjkebndkeamijaaGreatDoor
namespace Go.Proofs.YtjkebndkeamijaaGreatDoor
open Go.RowKit
theorem gCv {E:Int}{n:Nat}{p:Int}:qC E n p=0↔E=0/\mS n p=true:=by
 unfold qC
 split
 ·rename_i e
  split
  ·rename_i h;exact⟨fun _=>⟨e,h⟩,fun _=>rfl⟩
  ·rename_i h;exact⟨fun q=>absurd q (by decide),fun q=>absurd q.2 h⟩
 ·rename_i e;exact⟨fun q=>absurd q e,fun q=>absurd q.1 e⟩
end Go.Proofs.YtjkebndkeamijaaGreatDoor
namespace Go.Proofs.YtjkebndkeamijaaGreatDoor
open Go.RowKit Go.Shelf
attribute [local go_sem] Oper.semAt_some
def oX (y:Int)(s:Int×Int)(q:Int×Bool):Int×Int:=if s.2=0 then s else if q.2=true then (q.1,s.2 - y) else s
theorem hFy (F:Int->Bool)(y:Int)(k:Nat)(p:Int)(s:Int×Int):(yA F y k p).foldl (oX y) s=(sD y k p).foldl (tS F y) s:=by
 unfold yA
 rw[List.foldl_map]
 rfl
theorem gHa (y:Int):∀(l:List (Int×Bool)) (a:Int),l.foldl (oX y) (a,0)=(a,0)
 | [],_=>rfl
 | x::l,a=>by rw[List.foldl_cons,show oX y (a,0) x=(a,0) from by simp[oX],gHa y l a]
def hBf (F:Int->Bool)(n:Nat)(a b:Int):Int:=zC F n a (tM b) b
def gDm (F:Int->Bool)(E:Int)(n:Nat)(p b:Int):Int×Int:=if qC E n p=0 then (hBf F n p b,0) else (0,qC E n p)
def hDm (y b:Int):Prop:=(y=1/\0<=b/\b<=9223372036854775807)\/(y = -1 /\ -9223372036854775808<=b/\b<=0)
def gQo (y:Int)(w:World)(m:Nat)(s0:Int×Int)(pre:List (Int×Bool))(W:World):Prop :=
 W.heap[w.heap.size]? = some (.cells #[.int .i64 (pre.foldl (oX y) s0).1] 3 (0,0))/\W.heap[w.heap.size+1]? = some (.cells #[.int .i64 (pre.foldl (oX y) s0).2] 3 (0,0))/\W.heap[m]? = some (.cells #[.int .i64 y] 3 (0,0))/\hDm y (pre.foldl (oX y) s0).2/\Below w.heap.size w W
def hGa (y:Int)(w:World)(s0:Int×Int)(c:Code)(pre:List (Int×Bool))(W:World):Prop :=
 c=.exit 0/\(pre.foldl (oX y) s0).2=0/\W.heap[w.heap.size]? = some (.cells #[.int .i64 (pre.foldl (oX y) s0).1] 3 (0,0))/\Below w.heap.size w W
theorem k47{p:Prop}(h:p:=by
  rw[HF.out] at e0;have HQ:=jG (And.intro hK (And.intro i4 (And.intro hD (And.intro hs5 hsX))));clear i0 i4 hown hownX hI5 hv5 hD hK n0 n1 ny hw5 hB5 w0 w1 hwV vy vyc w0c
  gi_wp2
  try rw[Exit.noGoto_ret]
  obtain⟨q2,q3,hD,hs5,hsX⟩:=HQ.out;refine⟨by simp,.inl ⟨_,_,rfl,run_takeDeferred q2,?_⟩⟩;exact⟨_,results_tmp2 rfl _ _ _,rfl,q3.trans (belowK_b (w:=w) (zzb _) _ D _ _ oo q2 rfl rfl)⟩
  ):p:=h
theorem k38{p:Prop}(h:p:=by
  rw[if_pos (by rfl)];go_simp;refine hK.out _ _ trivial (fun hS=>?_);clear hK K
  try simp only[gQ]
  refine gT 1 kr rfl (fun K hK=>?_);rw[if_pos (by rfl)];go_simp;refine hK.out _ _ trivial (fun hS=>?_);clear hK K
  try simp only[gQ]
  refine gA 3 (some 38) hS ?_;refine gT 5 kr rfl (fun K hK=>?_);rw[if_pos (by rfl)];go_simp;refine hK.out _ _ trivial (fun hS=>?_);clear hK K
  try simp only[gQ]
  refine wpAnyH_done kr ?_ _;exact HFIN.out
  ):p:=h
theorem k37{p:Prop}(h:p:=by
  rw[if_pos (by rfl)];go_simp;refine hK.out _ _ trivial (fun hS=>?_);clear hK K
  try simp only[gQ]
  refine gT 2 kr rfl (fun K hK=>?_);rw[if_pos (by rfl)];go_simp;refine hK.out _ _ trivial (fun hS=>?_);clear hK K
  try simp only[gQ]
  refine gA 3 (some 38) hS ?_;refine gT 5 kr rfl (fun K hK=>?_);rw[if_pos (by rfl)];go_simp;refine hK.out _ _ trivial (fun hS=>?_);clear hK K
  try simp only[gQ]
  refine wpAnyH_done kr ?_ _;exact HFIN.out
  ):p:=h
theorem k36{p:Prop}(h:p:=by
  rw[if_pos (by rfl)];go_simp;refine hK.out _ _ trivial (fun hS=>?_);clear hK K
  try simp only[gQ]
  refine gA 3 (some 38) hS ?_;refine gT 4 kr rfl (fun K hK=>?_);rw[if_pos (by rfl)];go_simp;refine hK.out _ _ trivial (fun hS=>?_);clear hK K
  try simp only[gQ]
  refine gT 5 kr rfl (fun K hK=>?_);rw[if_pos (by rfl)];go_simp;refine hK.out _ _ trivial (fun hS=>?_);clear hK K
  try simp only[gQ]
  refine wpAnyH_done kr ?_ _;exact HFIN.out
  ):p:=h
theorem gSl {w:World}{B:Nat}{a:Option Addr}{len cap:Nat}{l:List Tok}{A E:Int}{F:Int->Bool}(h:yF w B a len cap A E)(hm:gQp w B a len cap F)(hT:mC w a len l)(hsame:E=0->∀(i:Nat) (x:Tok),l[i]? = some x->x.k=0->F ((i:Int)+1)=F (i:Int))(hlen:(len:Int)<=9223372036854775807)(hE:E=0->len<=2048)(p b:Int)(hb1 : -9223372036854775808<=b)(hb2:b<=9223372036854775807) :
  Calls Tryz.prog 28 #[.pointer (some ⟨B,0,none⟩),.slice a len cap,.int .i64 p,.int .i64 b] w fun e X' => e=.returned (.tuple #[.int .i64 (gDm F E len p b).1,.int .i64 (gDm F E len p b).2])/\Below w.heap.size w X' := by
 obtain⟨W1,hW1⟩:∃W1,(w.alloc (.cells #[.int .i64 p] 3)).alloc (.cells #[.int .i64 b] 3)=W1:=⟨_,rfl⟩
 have hs1:W1.heap.size=w.heap.size+2:=by rw[<-hW1];simp
 have hb1' : Below w.heap.size w W1:=by rw[<-hW1];exact((zzd _ w).alloc (zzb _) _).alloc (by simp) _
 obtain⟨m0,m1⟩:=hFv w (.cells #[.int .i64 p] 3) (.cells #[.int .i64 b] 3)
 rw[hW1] at m0 m1
 have HW1:=jG hW1
 have HC:=jG (vP h hlen p W1 hb1')
 have HI:Hid (∀X,Below W1.heap.size W1 X->X.heap[w.heap.size]? = some (.cells #[.int .i64 p] 3 (0,0))/\X.heap[w.heap.size+1]? = some (.cells #[.int .i64 b] 3 (0,0))/\Below w.heap.size w X):=fun X hX=>⟨(hX.block _ oo).trans m0,(hX.block _ oo).trans m1,hb1'.trans (hX.mono hb1'.size)⟩
 obtain⟨c0,c1⟩:W1.cell? ⟨w.heap.size,0,none⟩=some (.int .i64 p)/\W1.cell? ⟨w.heap.size+1,0,none⟩=some (.int .i64 b):=⟨(jS m0).1,(jS m1).1⟩
 have g0:((w.alloc (.cells #[.int .i64 p] 3)).alloc (.cells #[.int .i64 b] 3)).cell? ⟨w.heap.size,0,none⟩=some (.int .i64 p):=by rw[hW1];exact c0
 clear hW1 m0 m1
 unfold gDm
 by_cases hq:qC E len p=0
 ·rw[if_pos hq]
  rw[hq] at HC;obtain⟨rfl,hpl⟩:=gCv.1 hq;have hl48:=hE rfl;have hp' := jM.1 hpl;have HM:=jG (And.intro hm (And.intro hT (hsame rfl)));clear hm hT hsame h hE;have hy:=gUb b;have HWY:Hid (∀X:World,CallsIn Fence.wide 5 Tryz.prog 66 #[.int .i64 b] X fun e w' => e=.returned (.int .i64 (tM b))/\w' = X):=fun X=>callsIn_wide.2 (gDa b X)
  have hLb:hDm (tM b) b:=by
   unfold hDm tM
   by_cases hb0:b<0
   ·rw[if_pos hb0];exact .inr ⟨rfl,hb1,oo⟩
   ·rw[if_neg hb0];exact .inl ⟨rfl,oo,hb2⟩
  unfold hBf;generalize tM b=y at *;refine(callsIn_wide (n:=6)).1 ?_;refine callsIn_of_wp_marks Tryz.func28 rfl trivial ?_ rfl;simp only[Tryz.ntmps28,List.size_toArray,List.length_cons,List.length_nil,Nat.reduceAdd,Nat.reduceSub,Array.replicate_succ,Array.replicate_zero,List.push_toArray,List.append_toArray,List.nil_append,List.cons_append];have hfc:Fence.wide.fn 63:=trivial;have hfw:Fence.wide.fn 66:=trivial;have hfb:Fence.wide.fn 67:=trivial
  gi_wp2
  refine wpIn_wide.2 ?_;apply wp_scope_straight;refine(wpIn_wide (n:=6)).1 ?_
  gi_wp2_with (first | (gi_at_call 63;rw[HW1.out];refine(callsIn_wide.2 HC.out).mono ?_;rintro e X ⟨rfl,hX⟩;obtain⟨x0,x1,_⟩:=HI.out X hX;have d0:=(jS x0).1;have d1:=(jS x1).1) | (gi_at_call 66;refine(HWY.out _).mono ?_;rintro e X' ⟨rfl,rfl⟩) | (gi_at_call 67;fail))
  obtain⟨V,hV⟩:∃V,X'.alloc (.cells #[.int .i64 y] 3)=V:=⟨_,rfl⟩;rw[hV];(have hsX:w.heap.size+2<=X'.heap.size:=by rw[<-hs1];exact hX.size);(have hsV:V.heap.size=X'.heap.size+1:=by rw[<-hV];simp);(have hVX:Below X'.heap.size X' V:=by rw[<-hV];exact(zzd _ _).alloc (zzb _) _);(have vy:V.heap[X'.heap.size]? = some (.cells #[.int .i64 y] 3 (0,0)):=by rw[<-hV];exact World.alloc_heap_new X' _);have vyc:=(jS vy).1;have hVB:Below W1.heap.size W1 V:=hX.trans (hVX.mono hX.size);obtain⟨w0,w1,hwV⟩:=HI.out V hVB;have w0c:=(jS w0).1;clear hV d0 d1 x0 x1;refine wpIn_label ?_
  gi_wp2_with (gi_at_call 67;refine(gYp Fence.wide 5 trivial rfl _ _ _ _ _ _ _).mono ?_;rintro e X5 ⟨rfl,hX5⟩)
  (have hv5:zN X5 (X'.heap.size+1) B a len cap p y:=by rw[hX5,<-hsV];exact hFu V ..);(have hs5:X5.heap.size=X'.heap.size+5:=by rw[hX5];simp[hsV]);(have hB5:Below V.heap.size V X5:=by rw[hX5];exact((((zzd _ V).alloc (zzb _) _).alloc (by simp) _).alloc (by simp;omega) _).alloc (by simp;omega) _);obtain⟨n0,n1,hw5⟩:=HI.out X5 (hVB.trans (hB5.mono hVB.size));have ny:=(hB5.block _ oo).trans vy;rw[<-hX5];generalize hMM:X'.heap.size=M at *;have hI5:gQo y w M (p,b) [] X5:=⟨n0,n1,ny,hLb,hw5⟩
  have hown:OwnFrom X5.heap.size (gQo y w M (p,b)):=by
   rintro pre W W' row ⟨i0,i1,i2,i3,i4⟩ hg hrr;exact⟨lP hg hrr i0,lP hg hrr i1,lP hg hrr i2,i3,sC i4 hg hrr oo i4.size⟩
  have hownX:∀c,OwnFrom X5.heap.size (hGa y w (p,b) c):=by
   rintro c pre W W' row ⟨h1,h2,h3,h4⟩ hg hrr;exact⟨h1,h2,lP hg hrr h3,sC h4 hg hrr oo h4.size⟩
  refine wpIn_rangeFunc_ownH rfl oo (gf:=100) (lb:=#[.pointer (some ⟨M+1,0,none⟩),.pointer (some ⟨M+1+1,0,none⟩),.pointer (some ⟨M+1+1+1,0,none⟩),.pointer (some ⟨M+1+1+1+1,0,none⟩)]) rfl trivial (enters_of Tryz.func100 kr rfl)
   (encs:=fun q:Int×Bool=>#[.int .i64 q.1,.bool q.2]) (Kp:=KpD w.heap.size (M+1)) (S:=fun ys=>ys=yA F y (rC len p y) p) (Sp:=fun pre=>pre <+: yA F y (rC len p y) p) (N:=len+1) (w0:=X5)
   (fun li J Jx W hW hJ _ hY h0=>gTt 5 oo li (M+1) B a len cap l p y hy hp' hl48 F w HM.out.1 HM.out.2.1 HM.out.2.2 J Jx W hJ hY (hw5.trans (hW.mono hw5.size)) (hv5.kp (fun k h1 h2=>hW.block k oo)) h0)
   (fun h k=>⟨h.1.trans k.1,fun i h1 h2=>(k.2 i h1 h2).trans (h.2 i h1 h2)⟩) (fun W li o o' hl h1 h2 h3=>⟨belowK_b (w:=w) (zzb _) W li o o' oo h1 h2 h3,fun k h4 h5=>World.putObj_heap_other oo⟩) (zzd _ _) (fun _=>rfl)
   (gQo y w M (p,b)) (hGa y w (p,b)) hown hownX hI5
   (fun q a' W=>a' = { tmps:=#[.pointer (some ⟨B,0,none⟩),.slice a len cap,.int .i64 p,.int .i64 b,undef,undef,.pointer (some ⟨w.heap.size,0,none⟩),.pointer (some ⟨w.heap.size+1,0,none⟩),.int .i64 0,.int .i64 0,.int .i64 0,.pointer (some ⟨M,0,none⟩),.int .i64 q.1,.bool q.2,.pointer (some ⟨B,0,none⟩),.slice a len cap,.int .i64 p,.int .i64 0,.int .i64 0,.bool false,undef,.int .i64 b,.int .i64 y,.pointer (some ⟨B,0,none⟩),.slice a len cap,.int .i64 p,.int .i64 y,.func (.func 100) #[] #[.pointer (some ⟨M+1,0,none⟩),.pointer (some ⟨M+1+1,0,none⟩),.pointer (some ⟨M+1+1+1,0,none⟩),.pointer (some ⟨M+1+1+1+1,0,none⟩)],.int .i64 q.1,.bool q.2,undef,undef,undef,undef,undef,undef,undef,undef,undef,undef],defers:=[] }) ?hax ?assign ?body ?done ?stop
  case hax=>
   rintro q a' _ W W' row h hg hrr;exact h
  case assign=>
   rintro li pre q W K hi hK;have HK:=jG hK;clear hK
   gi_wp2
   exact HK.out _ _ (KeepsFrom.refl _ _) ⟨zzd _ _,fun _ _ _=>rfl⟩ hi rfl
  case body=>
   rintro li pre ⟨q,ok⟩ a' W hli ⟨r,hrec⟩ ⟨i0,i1,i2,i3,i4⟩ rfl hlt;have HST:=jG (show (pre++[(q,ok)]).foldl (oX y) (p,b)=oX y (pre.foldl (oX y) (p,b)) (q,ok) from by rw[List.foldl_append];rfl);generalize hst:pre.foldl (oX y) (p,b)=st at *;have e0:=(jS i0).1;have e1:=(jS i1).1;have e2:=(jS i2).1;have HII:=jG (And.intro i0 (And.intro i1 (And.intro i2 (And.intro i3 i4))));have HSZ:=jG (And.intro hs5 hsX);clear i0 i1 i2 i4 hown hownX hI5 hv5 hlt hrec n0 n1 ny hw5 hB5 w0 w1 hwV vy vyc w0c
   by_cases hz:st.2=0
   ·have hbz:(st.2==0)=true:=by simpa using hz
    have HFX:=jG (show oX y st (q,ok)=st from by unfold oX;rw[if_pos hz])
    gi_wp2
    obtain⟨j0,_,_,_,j4⟩:=HII.out;exact⟨KeepsFrom.refl _ _,rfl,by rw[HST.out,HFX.out];exact hz,by rw[HST.out,HFX.out];exact j0,j4⟩
   ·have hbz:(st.2==0)=false:=by simpa using hz
    cases ok with
    | false=>
     have HFX:=jG (show oX y st (q,false)=st from by unfold oX;rw[if_neg hz,if_neg (by simp)])
     gi_wp2
     obtain⟨j0,j1,j2,j3,j4⟩:=HII.out;exact⟨KeepsFrom.refl _ _,⟨zzd _ _,fun _ _ _=>rfl⟩,by rw[HST.out,HFX.out];exact j0,by rw[HST.out,HFX.out];exact j1,j2,by rw[HST.out,HFX.out];exact j3,j4⟩
    | true=>
     have HFX:=jG (show oX y st (q,true)=(q,st.2 - y) from by unfold oX;rw[if_neg hz,if_pos rfl])
     have hrng:(-9223372036854775808<=st.2 - y/\st.2 - y<=9223372036854775807)/\hDm y (st.2 - y):=by
      unfold hDm at *;rcases i3 with ⟨rfl,g1,g2⟩ | ⟨rfl,g1,g2⟩
      ·exact⟨oo,.inl ⟨rfl,oo,oo⟩⟩
      ·exact⟨oo,.inr ⟨rfl,oo,oo⟩⟩
     obtain⟨⟨hr1,hr2⟩,hLn⟩:=hrng;have HLN:=jG hLn;clear hLn;obtain⟨j0,j1,j2,j3,j4⟩:=HII.out;obtain⟨k0,k1⟩:=gEs j0 j1 oo (.int .i64 q) (.int .i64 (st.2 - y));have f0:=(jS j0).2;(have f1:∀v,(W.setCell ⟨w.heap.size,0,none⟩ v).frozen? ⟨w.heap.size+1,0,none⟩=false:=fun v=>(jS ((zzh W _ v (w.heap.size+1) (by show w.heap.size+1≠w.heap.size;omega)).trans j1)).2);(have hwr:IntKind.i64.wrap (st.2 - y)=st.2 - y:=by rw[IntKind.wrap_i64];omega);have hz2:=HSZ.out;have hKF:KeepsFrom X5.heap.size W ((W.setCell ⟨w.heap.size,0,none⟩ (.int .i64 q)).setCell ⟨w.heap.size+1,0,none⟩ (.int .i64 (st.2 - y))):=(KeepsFrom.of_grownBy (grownBy_setCell' W _ _) (fun j e=>by cases e;omega)).trans (KeepsFrom.of_grownBy (grownBy_setCell' _ _ _) (fun j e=>by cases e;omega))
     have hKP:KpD w.heap.size (M+1) W ((W.setCell ⟨w.heap.size,0,none⟩ (.int .i64 q)).setCell ⟨w.heap.size+1,0,none⟩ (.int .i64 (st.2 - y))):=by
      refine⟨((zzd _ W).setCell (p:=⟨w.heap.size,0,none⟩) (zzb _) _).setCell (p:=⟨w.heap.size+1,0,none⟩) (Nat.le_succ _) _,fun k h1 h2=>?_⟩;rw[zzh _ _ _ k (by show k≠w.heap.size+1;omega),zzh _ _ _ k (by show k≠w.heap.size;omega)]
     have k2:((W.setCell ⟨w.heap.size,0,none⟩ (.int .i64 q)).setCell ⟨w.heap.size+1,0,none⟩ (.int .i64 (st.2 - y))).heap[M]? = some (.cells #[.int .i64 y] 3 (0,0)):=by
      rw[zzh _ _ _ M (by show M≠w.heap.size+1;omega),zzh _ _ _ M (by show M≠w.heap.size;omega)];exact j2
     have k4:=(j4.setCell (p:=⟨w.heap.size,0,none⟩) (zzb _) (.int .i64 q)).setCell (p:=⟨w.heap.size+1,0,none⟩) (Nat.le_succ _) (.int .i64 (st.2 - y))
     have hMI:gQo y w M (p,b) (pre++[(q,true)]) ((W.setCell ⟨w.heap.size,0,none⟩ (.int .i64 q)).setCell ⟨w.heap.size+1,0,none⟩ (.int .i64 (st.2 - y))).drew:=by
      unfold gQo;rw[HST.out,HFX.out];exact⟨k0,k1,k2,HLN.out,k4.drew⟩
     have HFIN:=jG (And.intro (KeepsFrom.mk (W' := ((W.setCell ⟨w.heap.size,0,none⟩ (.int .i64 q)).setCell ⟨w.heap.size+1,0,none⟩ (.int .i64 (st.2 - y))).drew) hKF.size hKF.same) (And.intro (show KpD w.heap.size (M+1) W ((W.setCell ⟨w.heap.size,0,none⟩ (.int .i64 q)).setCell ⟨w.heap.size+1,0,none⟩ (.int .i64 (st.2 - y))).drew from ⟨hKP.1.drew,hKP.2⟩) hMI));clear j0 j1 j2 j3 j4 k0 k1 k2 k4 hKF hKP hMI
     gi_wp2_with fail
     (have E1:∀v,(W.setCell ⟨w.heap.size,0,none⟩ v).cell? ⟨w.heap.size+1,0,none⟩=some (.int .i64 st.2):=fun v=>(World.cell?_setCell_far W ⟨w.heap.size,0,none⟩ ⟨w.heap.size+1,0,none⟩ v (by show w.heap.size≠w.heap.size+1;omega)).trans e1);(have E2:∀v,(W.setCell ⟨w.heap.size,0,none⟩ v).cell? ⟨M,0,none⟩=some (.int .i64 y):=fun v=>(World.cell?_setCell_far W ⟨w.heap.size,0,none⟩ ⟨M,0,none⟩ v (by show w.heap.size≠M;omega)).trans e2);refine gEf (S:=fun _=>True) mixed kr trivial (fun hS=>?_);refine gA 0 (some 35) hS ?_;refine wpAnyH_ready (rs:=[1,2,4]) kr (by simp) (AllReadyH.cons (i:=1) rfl (fun K hK=>?_) (AllReadyH.cons (i:=2) rfl (fun K hK=>?_) (AllReadyH.cons (i:=4) rfl (fun K hK=>?_) AllReadyH.nil)))
     ·skip
      rw[if_pos (by rfl)];go_simp;refine hK.out _ _ trivial (fun hS=>?_);clear hK K
      try simp only[gQ]
      refine wpAnyH_ready (rs:=[2,4]) kr (by simp) (AllReadyH.cons (i:=2) rfl (fun K hK=>?_) (AllReadyH.cons (i:=4) rfl (fun K hK=>?_) AllReadyH.nil))
      ·skip
       exact k36
      ·skip
       exact k37
     ·skip
      rw[if_pos (by rfl)];go_simp;refine hK.out _ _ trivial (fun hS=>?_);clear hK K
      try simp only[gQ]
      refine wpAnyH_ready (rs:=[1,4]) kr (by simp) (AllReadyH.cons (i:=1) rfl (fun K hK=>?_) (AllReadyH.cons (i:=4) rfl (fun K hK=>?_) AllReadyH.nil))
      ·skip
       exact k36
      ·skip
       exact k38
     ·skip
      rw[if_pos (by rfl)];go_simp;refine hK.out _ _ trivial (fun hS=>?_);clear hK K
      try simp only[gQ]
      refine wpAnyH_ready (rs:=[1,2]) kr (by simp) (AllReadyH.cons (i:=1) rfl (fun K hK=>?_) (AllReadyH.cons (i:=2) rfl (fun K hK=>?_) AllReadyH.nil))
      ·skip
       exact k37
      ·skip
       exact k38
  case done=>
   rintro D ys W hD rfl ⟨i0,_,_,_,i4⟩ hK;have e0:=(jS i0).1;have HF:=jG (show ((yA F y (rC len p y) p).foldl (oX y) (p,b)).1=zC F len p y b from by rw[hFy];rfl);exact k47
  case stop=>
   rintro D c pre W hD hpre ⟨rfl,hz,i0,i4⟩ hK;have e0:=(jS i0).1
   have HF:=jG (show (pre.foldl (oX y) (p,b)).1=zC F len p y b from by
    obtain⟨r,hr⟩:=hpre
    show _=((sD y (rC len p y) p).foldl (tS F y) (p,b)).1
    rw[<-hFy,<-hr,List.foldl_append];generalize pre.foldl (oX y) (p,b)=st at *;obtain⟨u,v⟩:=st;simp only at hz;subst hz
    rw[gHa])
   exact k47
 ·rw[if_neg hq]
  generalize qC E len p=q at *;(have hd:(q != 0)=true:=by simpa using hq);go_enter Tryz.func28,Tryz.ntmps28;go_wp2
  go_step3
  (go_wp2_with fail);rw[HW1.out];refine HC.out.mono ?_;rintro e X ⟨rfl,hX⟩;obtain⟨_,_,hB⟩:=HI.out X hX;have HBX:=jG hB;clear hX hB;go_wp2
  try rw[Exit.noGoto_ret]
  go_ret2;exact⟨rfl,HBX.out⟩
end Go.Proofs.YtjkebndkeamijaaGreatDoor
