/-
  PROVED HERE: what the texts DAFCheck, DAOwn, DASchF, DAFOpen, DAFDeep say.
-/
import Derived.Test.YtjkebndkeamijaaGreatDoorCA20
import Derived.Deep.AppendSrc
import Derived.Deep.WholeRow
set_option maxRecDepth 100000
set_option maxHeartbeats 4000000
namespace Go.Proofs.YtjkebndkeamijaaGreatDoor
open Go.RowKit
theorem Stk.below {w W:World}{base g:Nat}{v:Value}{R:List Int}(h:Stk w base g v R)(hB:Below w.heap.size w W):Stk W base g v R:=by
 have hlt:=h.cells.2.2.2.2.2
 obtain⟨h0,h1,cs,hg,hc⟩:=h
 exact⟨h0,qY h1 hB oo,cs,(hB.block g hlt).trans hg,hc⟩
theorem oD {w W:World}{k t n m:Int}{T:TypeId}(hB:Below (w.alloc (.cells #[.int .i64 k,.int .i64 t,.int .i64 n,.int .i64 m] T)).heap.size (w.alloc (.cells #[.int .i64 k,.int .i64 t,.int .i64 n,.int .i64 m] T)) W) :
  W.cell? ⟨w.heap.size,0,none⟩=some (.int .i64 k)/\W.cell? ⟨w.heap.size,1,none⟩=some (.int .i64 t)/\W.cell? ⟨w.heap.size,2,none⟩=some (.int .i64 n)/\W.cell? ⟨w.heap.size,3,none⟩=some (.int .i64 m)/\Below w.heap.size w W:=by
 have hg:=heap_alloc_new w (.cells #[.int .i64 k,.int .i64 t,.int .i64 n,.int .i64 m] T)
 have hc:=fun j=>(hB.cell (p:=⟨w.heap.size,j,none⟩) (by simp)).trans (cell_of_row _ w.heap.size j _ _ _ hg)
 refine⟨hc 0,hc 1,hc 2,hc 3,?_⟩
 exact((zzd _ w).alloc (zzb _) _).trans (hB.mono (by simp))
theorem yI (w:World):Stk (w.alloc (.cells #[.int .i64 0,.int .i64 0,.int .i64 0,.int .i64 0,.int .i64 0,.int .i64 0,.int .i64 0,.int .i64 0,.int .i64 0,.int .i64 0,.int .i64 0,.int .i64 0,.int .i64 0,.int .i64 0,.int .i64 0,.int .i64 0,.int .i64 0,.int .i64 0,.int .i64 0,.int .i64 0,.int .i64 0,.int .i64 0,.int .i64 0,.int .i64 0,.int .i64 0,.int .i64 0,.int .i64 0,.int .i64 0,.int .i64 0,.int .i64 0,.int .i64 0,.int .i64 0,.slice none 0 0,.int .i64 0] 111)) w.heap.size w.heap.size (.slice none 0 0) []:=by
 refine⟨zzb _,World.ownsRow_nil _ _ _ _,_,heap_alloc_new w _,rfl,fun i _ h=>absurd h (by simp),fun i hi=>⟨0,?_⟩,rfl,rfl⟩
 match i,hi with
 | 0,_ | 1,_ | 2,_ | 3,_ | 4,_ | 5,_ | 6,_ | 7,_ | 8,_ | 9,_ | 10,_ | 11,_ | 12,_ | 13,_ | 14,_ | 15,_ | 16,_ | 17,_ | 18,_ | 19,_ | 20,_ | 21,_ | 22,_ | 23,_ | 24,_ | 25,_ | 26,_ | 27,_ | 28,_ | 29,_ | 30,_ | 31,_=>rfl
 | (n+32),h=>omega
theorem k30{p:Prop}(h:p:=by
  clear hch;(go_wp2_with fail);refine(hr _).mono ?_;rintro e W1 ⟨rfl,hB1⟩;obtain⟨t0,t1,t2,t3,hB2⟩:=oD hB1;have hS1:=hS.below hB2;have hB3:Below w.heap.size w W1:=hB.trans (hB2.mono hB.size);clear hB2 hB1 hS;(go_wp2_with fail);refine(HP.out _ _ _ hS1 hB3.size oo).mono ?_;rintro e W2 ⟨rfl,v', hS2,hB4⟩;have hB5:=hB3.trans hB4;obtain⟨-,s33b,-⟩:=hS2.cells;rw[HT2.out] at s33b;go_wp2
  go_roundw
  case rel=>exact⟨k+1,v', _,oo,rfl,by rw[HT2.out];omega,hS2,by rw[HT2.out];exact HD.out.symm,hB5⟩
  case measure=>simp[intOf];omega
  ):p:=h
theorem gLy (a:Option Addr)(len cap:Nat)(l:List Tok)(w:World)(hl:mC w a len l)(hsz:len<=4398046511104) :
  Calls Tryz.prog 33 #[.slice a len cap] w fun e w' => e=.returned (.tuple #[.int .i64 (iO l).1,.int .i64 (iO l).2])/\Below w.heap.size w w' := by
 by_cases hlong:2048<len
 ·rw[show iO l=(0,2) from by unfold iO;rw[if_pos (by rw[hl.1];exact hlong)]]
  go_enter Tryz.func33,Tryz.ntmps33;go_wp2;go_ret2;exact⟨rfl,zzd _ _⟩
 ·have HC:Hid (iO l=mM l 0 0):=by show iO l=_;unfold iO;rw[if_neg (by rw[hl.1];exact hlong)]
  have hnew:=yI w;(have hB0:∀o,Below w.heap.size w (w.alloc o):=fun o=>(zzd _ w).alloc (zzb _) o);go_enter Tryz.func33,Tryz.ntmps33;go_wp2
  go_loopw [12] (fun i w' => ∃(k:Nat) (v:Value) (R:List Int),k<=len/\i=.int .i64 (k:Int)/\R.length<=32/\Stk w' w.heap.size w.heap.size v R/\mM (l.drop k) k (R.length:Int)=iO l/\Below w.heap.size w w') (fun i _=>len - (intOf i).toNat)
  case atStart=>exact⟨0,_,[],zzn _,rfl,by simp,hnew,HC.out.symm,hB0 _⟩
  case round=>
   obtain⟨k,v,R,hk,rfl,hR,hS,hch,hB⟩:=hrel;clear hnew hB0;have hl' := hl.below hB;obtain⟨-,s33,-⟩:=hS.cells
   by_cases hlt:k<len
   ·obtain⟨x,hx,hdr⟩:=uS (l:=l) (k:=k) (by rw[hl.1];exact hlt)
    obtain⟨b,o,rfl,hbl,hcl⟩:=(show ∃b o,a=some ⟨b,o,none⟩/\b<wr.heap.size/\∀i x,l[i]? = some x->wr.cell? ⟨b,o+i * 4,none⟩=some (.int .i64 x.k)/\wr.cell? ⟨b,o+i * 4+1,none⟩=some (.int .i64 x.t) ∧
     wr.cell? ⟨b,o+i * 4+2,none⟩=some (.int .i64 x.n)/\wr.cell? ⟨b,o+i * 4+3,none⟩=some (.int .i64 x.m) from by
      rcases hl'.2 with h | h
      ·omega
      ·exact h)
    obtain⟨c0,c1,c2,c3⟩:=hcl k x hx;(have hr:=fun W=>gLt x W);have HSz:Hid (w.heap.size<=wr.heap.size):=hB.size
    have HP:Hid (∀W v R,Stk W w.heap.size w.heap.size v R->w.heap.size<=W.heap.size->R.length<=4398046511104->Calls Tryz.prog 69 #[.pointer (some ⟨w.heap.size,0,none⟩),.int .i64 (k:Int),nT x] W fun e w' => e=.returned (.tuple #[])/\∃v', Stk w' w.heap.size w.heap.size v' (lA x k R)/\Below w.heap.size W w'):=by
     intro W v R h1 h2 h3;refine(uC w.heap.size w.heap.size v R k x W h1 h2 h3).mono ?_;rintro e w' ⟨e1,v', e2,e3,_⟩;exact⟨e1,v', e2,e3.below (zzb _) (fun j hj=>(oF h1.2.1 j hj).1) h2⟩
    have hl0:=hl.1;clear hcl hl' hl hx;rw[hdr] at hch;clear hdr;rw[mM] at hch
    have HT:Hid ((lA x k R).length=if x.k=1 then R.length+1 else if x.k=2 then R.length - 1 else R.length):=by
     show _=_
     unfold lA
     split<;>(try split)<;>simp
    obtain⟨xk,xt,xn,xm⟩:=x;generalize qV ⟨xk,xt,xn,xm⟩=p at *;simp only[nT] at *;cases p
    ·have HD:Hid (iO l=((k:Int),4)):=by show iO l=_;rw[<-hch];simp
     clear hch;(go_wp2_with fail);refine(hr _).mono ?_;rintro e W1 ⟨rfl,hB1⟩;obtain⟨t0,t1,t2,t3,hB2⟩:=oD hB1;have hB3:Below w.heap.size w W1:=hB.trans (hB2.mono hB.size);go_wp2;go_ret2;exact⟨by rw[HD.out];rfl,hB3⟩
    ·simp only[Bool.not_true,Bool.false_or] at hch
     by_cases k1:xk=1
     ·subst k1
      simp only[show ((1:Int)==2)=false from rfl,Bool.false_and,Bool.false_eq_true,if_false,if_true] at hch
      by_cases hd:R.length=32
      ·have HD:Hid (iO l=((k:Int),8)):=by show iO l=_;rw[<-hch,if_pos oo]
       (have HT2:Hid ((lA ⟨1,xt,xn,xm⟩ k R).length=33):=by show _=_;rw[HT.out];simp[hd]);clear hch;(go_wp2_with fail);refine(hr _).mono ?_;rintro e W1 ⟨rfl,hB1⟩;obtain⟨t0,t1,t2,t3,hB2⟩:=oD hB1;have hS1:=hS.below hB2;have hB3:Below w.heap.size w W1:=hB.trans (hB2.mono hB.size);clear hB2 hB1 hS;(go_wp2_with fail);refine(HP.out _ _ _ hS1 hB3.size oo).mono ?_;rintro e W2 ⟨rfl,v', hS2,hB4⟩;have hB5:=hB3.trans hB4;obtain⟨-,s33b,-⟩:=hS2.cells;rw[HT2.out] at s33b;go_wp2;go_ret2;exact⟨by rw[HD.out];rfl,hB5⟩
      ·have HD:Hid (iO l=mM (l.drop (k+1)) (k+1) (R.length+1)):=by show iO l=_;rw[<-hch,if_neg oo]
       (have HT2:Hid ((lA ⟨1,xt,xn,xm⟩ k R).length=R.length+1):=by show _=_;rw[HT.out];simp);exact k30
     ·by_cases k2:xk=2
      ·subst k2
       simp only[show ((2:Int)==2)=true from rfl,Bool.true_and,show ¬((2:Int)=1) from by decide,if_false,if_true] at hch
       by_cases hd:R.length=0
       ·have HD:Hid (iO l=((k:Int),4)):=by show iO l=_;rw[<-hch];simp[hd]
        rw[hd] at s33;clear hch;(go_wp2_with fail);refine(hr _).mono ?_;rintro e W1 ⟨rfl,hB1⟩;obtain⟨t0,t1,t2,t3,hB2⟩:=oD hB1;have hS1:=hS.below hB2;have hB3:Below w.heap.size w W1:=hB.trans (hB2.mono hB.size)
        have s33b:W1.cell? ⟨w.heap.size,33,none⟩=some (.int .i64 0):=by
         obtain⟨-,q,-⟩:=hS1.cells;rw[hd] at q;exact q
        go_wp2;go_ret2;exact⟨by rw[HD.out];rfl,hB3⟩
       ·have HD:Hid (iO l=mM (l.drop (k+1)) (k+1) ((R.length - 1:Nat):Int)):=by show iO l=_;rw[<-hch,if_neg (by simpa using hd),if_neg oo,show ((R.length - 1:Nat):Int)=(R.length:Int) - 1 from by omega]
        (have HT2:Hid ((lA ⟨2,xt,xn,xm⟩ k R).length=R.length - 1):=by show _=_;rw[HT.out];simp);(have ed:((R.length:Int)==0)=false:=by simpa using hd);clear hch;(go_wp2_with fail);refine(hr _).mono ?_;rintro e W1 ⟨rfl,hB1⟩;obtain⟨t0,t1,t2,t3,hB2⟩:=oD hB1;have hS1:=hS.below hB2;have hB3:Below w.heap.size w W1:=hB.trans (hB2.mono hB.size);obtain⟨-,s33a,-⟩:=hS1.cells;clear hB2 hB1 hS;(go_wp2_with fail);refine(HP.out _ _ _ hS1 hB3.size oo).mono ?_;rintro e W2 ⟨rfl,v', hS2,hB4⟩;have hB5:=hB3.trans hB4;obtain⟨-,s33b,-⟩:=hS2.cells;rw[HT2.out] at s33b;go_wp2
        go_roundw
        case rel=>exact⟨k+1,v', _,oo,rfl,by rw[HT2.out];omega,hS2,by rw[HT2.out];exact HD.out.symm,hB5⟩
        case measure=>simp[intOf];omega
      ·have HD:Hid (iO l=mM (l.drop (k+1)) (k+1) (R.length:Int)):=by
        show iO l=_
        rw[<-hch,if_neg (by simp[k2]),if_neg k1,if_neg k2,if_neg oo]
       (have HT2:Hid ((lA ⟨xk,xt,xn,xm⟩ k R).length=R.length):=by show _=_;rw[HT.out];simp[k1,k2]);(have e2:(xk==2)=false:=by simpa using k2);exact k30
   ·obtain rfl:k=len:=by omega
    rw[List.drop_eq_nil_of_le (Nat.le_of_eq hl.1),mM] at hch
    by_cases hd:R.length=0
    ·rw[if_neg oo] at hch
     have HD:Hid (iO l=((k:Int),0)):=hch.symm;rw[hd] at s33;clear hch hl hl';go_wp2;go_ret2;exact⟨by rw[HD.out];rfl,hB⟩
    ·rw[if_pos oo] at hch
     have HD:Hid (iO l=((k:Int),3)):=hch.symm;(have hd1:(0:Int)<(R.length:Int):=by omega);clear hch hl hl';generalize R.length=n at *;go_wp2;go_ret2;exact⟨by rw[HD.out];rfl,hB⟩
def flat:List Tok->List Value
 | []=>[]
 | x::r=>.int .i64 x.k :: .int .i64 x.t :: .int .i64 x.n :: .int .i64 x.m::flat r
theorem gJu (b o i:Nat):(⟨b,o,none⟩:Addr).add i=⟨b,o+i,none⟩:=by unfold Addr.add;split<;>simp_all
def hDc (s t:Int):Int:=((s.toNat &&& (t % 8).toNat:Nat):Int)
def gEy (s t:Int):Int:=if qW s=true then hDc s t else 0
theorem gQq (x:Int)(h0:0<=x)(h1:x<1000):IntKind.i64.wrap x=x:=by
 simp[IntKind.wrap,IntKind.bits,IntKind.signed]
 omega
theorem gWv (n:Nat)(h:n<1000):(BitVec.ofInt 64 (n:Int)).toNat=n:=by
 rw[BitVec.toNat_ofInt]
 have:((2 ^ 64:Nat):Int)=18446744073709551616:=rfl
 rw[this]
 omega
theorem gWw (s:Nat)(hs:s<8)(t:Int):s &&& (BitVec.ofInt 64 t).toNat=s &&& (t % 8).toNat:=by
 have h1:s=s &&& 7:=by
  rw[Nat.and_two_pow_sub_one_eq_mod s 3];omega
 rw[h1,Nat.and_assoc,Nat.and_assoc]
 have h2:∀n,7 &&& n=n % 8:=fun n=>by rw[Nat.and_comm];exact Nat.and_two_pow_sub_one_eq_mod n 3
 rw[h2,h2,BitVec.toNat_ofInt]
 have h3:((t % ((2 ^ 64:Nat):Int)).toNat) % 8=(t % 8).toNat % 8:=by
  have:((2 ^ 64:Nat):Int)=18446744073709551616:=rfl
  rw[this];omega
 rw[h3]
theorem gQd (s t:Int)(h0:0<=s)(h1:s<=4):bits BinOp.and IntKind.i64 s t=hDc s t:=by
 obtain⟨n,rfl⟩:=Int.eq_ofNat_of_zero_le h0
 show IntKind.i64.wrap ((BitVec.ofInt 64 (n:Int) &&& BitVec.ofInt 64 t).toNat:Int)=_
 have hn:n<=4:=by omega
 rw[BitVec.toNat_and,gWv n oo,gWw n oo t]
 have hle:n &&& (t % 8).toNat<=n:=Nat.and_le_left
 rw[gQq _ oo oo]
 rfl
theorem k89{p:Prop}(h:p:=by
  go_enter Tryz.func159,Tryz.ntmps159;(go_wp2_with fail);refine(h1 _).mono ?_;rintro e w' ⟨rfl,rfl⟩;go_wp2;go_ret;exact⟨rfl,rfl⟩
  ):p:=h
theorem gMo (s t:Int)(w:World):Calls Tryz.prog 159 #[.int .i64 s,.int .i64 t] w fun e w' => e=.returned (.int .i64 (gEy s t))/\w' = w:=by
 have h1:=fun W=>gDt s W
 unfold gEy
 by_cases hs:qW s=true
 ·have hs' : 0<=s/\s<=4:=by unfold qW at hs;simpa using hs
  have hb:=gQd s t hs'.1 hs'.2;rw[if_pos hs];rw[hs] at h1;generalize hDc s t=x at *;exact k89
 ·have hs' : qW s=false:=by simpa using hs
  rw[if_neg hs];rw[hs'] at h1;exact k89
theorem qP.cells {w:World}{B g c ng nc:Nat}{ks:List gN}{gs:List Grp}{ts:List (DataW Unit)}(h:qP w B g c ng nc ks gs ts):∀X,Below w.heap.size w X->X.cell? ⟨B,0,none⟩=some (.slice (some ⟨g,0,none⟩) ks.length c)/\X.cell? ⟨B,1,none⟩=some (.slice (some ⟨ng,0,none⟩) gs.length nc):=fun X hX=>by
 have hc:=fun j=>cell_of_row X B j _ _ _ ((hX.block _ (zza.1 h.sch).1).trans h.sch)
 exact⟨hc 0,hc 1⟩
theorem gBg {B g c ng nc:Nat}{ks:List gN}{gs:List Grp}{ts:List (DataW Unit)}(w:World)(h:qP w B g c ng nc ks gs ts)(h0:0<ks.length):Calls Tryz.prog 32 #[.pointer (some ⟨B,0,none⟩)] w fun e w' => e=.returned (.bool true)/\w' = w:=by
 obtain⟨c0,_⟩:=h.cells w (zzd _ _)
 have hd:decide ((0:Int)<(ks.length:Int))=true:=by simp;omega
 have hl:(ks.length:Int)<=16:=by have:=h.cap.2.2;omega
 clear h
 go_enter Tryz.func32,Tryz.ntmps32
 go_wp2
 go_ret
 exact⟨rfl,rfl⟩
theorem k82{p:Prop}(h:p:=by
  go_enter Tryz.func60,Tryz.ntmps60;(go_wp2_with fail);refine HM.mono ?_;rintro e w' ⟨rfl,rfl⟩;go_wp2;go_ret;exact⟨rfl,rfl⟩
  ):p:=h
theorem gKe {B g c ng nc:Nat}{ks:List gN}{gs:List Grp}{ts:List (DataW Unit)}(w:World)(h:qP w B g c ng nc ks gs ts)(h0:0<ks.length)(t:Int):Calls Tryz.prog 60 #[.pointer (some ⟨B,0,none⟩),.int .i64 t] w fun e w' => e=.returned (.pointer (if 1<=t/\t<ks.length then some ⟨g,t.toNat * 10,none⟩ else none))/\w' = w:=by
 have HM:=gBg w h h0
 obtain⟨c0,_⟩:=h.cells w (zzd _ _)
 have hl:(ks.length:Int)<=16:=by have:=h.cap.2.2;omega
 clear h
 by_cases d1:t<=0
 ·rw[if_neg oo]
  have hd:decide (t<=0)=true:=by simpa using d1
  exact k82
 ·have hd:decide (t<=0)=false:=by simpa using d1
  by_cases d2:(ks.length:Int)<=t
  ·rw[if_neg oo]
   (have hd2:decide ((ks.length:Int)<=t)=true:=by simpa using d2);exact k82
  ·rw[if_pos oo]
   (have hd2:decide ((ks.length:Int)<=t)=false:=by simpa using d2);obtain⟨n,rfl⟩:∃n:Nat,t=(n:Int):=⟨t.toNat,oo⟩;rw[Int.toNat_natCast];(have hlt:(n:Int)<(ks.length:Int):=by omega);(have hn0:(0:Int)<=(n:Int):=by omega);exact k82
theorem gGt {B g c ng nc:Nat}{ks:List gN}{gs:List Grp}{ts:List (DataW Unit)}(w:World)(h:qP w B g c ng nc ks gs ts)(h0:0<ks.length)(lv:Value):Calls Tryz.prog 47 #[.pointer (some ⟨B,0,none⟩),lv,.int .i64 (-1)] w fun e w' => e=.returned (.pointer (some ⟨g,0,none⟩))/\Below w.heap.size w w' := by
 obtain⟨c0,_⟩:=h.cells w (zzd _ _)
 have hl:(ks.length:Int)<=16:=by have:=h.cap.2.2;omega
 have hpos:(0:Int)<(ks.length:Int):=by omega
 have HR:Hid (Below w.heap.size w w):=zzd _ _
 clear h
 go_enter Tryz.func47,Tryz.ntmps47
 go_wp2
 go_ret
 exact⟨rfl,HR.out⟩
theorem gJe {B g c ng nc:Nat}{ks:List gN}{gs:List Grp}{ts:List (DataW Unit)}(w:World)(h:qP w B g c ng nc ks gs ts)(a:Option Addr)(len cap:Nat)(l:List Tok)(hl:mC w a len l)(hsz:len<=2048)(i:Nat)(x:Tok)(hx:l[i]? = some x)(hx0:0<=x.t)(hx1:x.t<ks.length):Calls Tryz.prog 47 #[.pointer (some ⟨B,0,none⟩),.slice a len cap,.int .i64 (i:Int)] w fun e w' => e=.returned (.pointer (some ⟨g,x.t.toNat * 10,none⟩))/\Below w.heap.size w w' := by
 obtain⟨c0,_⟩:=h.cells w (zzd _ _)
 have hlk:(ks.length:Int)<=16:=by have:=h.cap.2.2;omega
 have hil:i<len:=by have:=(zzc.1 hx).1;have:=hl.1;omega
 obtain⟨b,o,y,rfl,_,hy,hW⟩:=hl.token hil
 rw[hx] at hy
 cases hy
 obtain⟨c1,c2,c3,c4⟩:=hW w (zzd _ _)
 have hii:(i:Int)<(len:Int):=by omega
 have hi0:(0:Int)<=(i:Int):=by omega
 have hli:(len:Int)<=2048:=by omega
 have hne:((i:Int) == -1)=false:=by rw[beq_eq_false_iff_ne];omega
 obtain⟨n,hn⟩:∃n:Nat,x.t=(n:Int):=⟨x.t.toNat,oo⟩
 rw[hn] at c2 hx0 hx1 ⊢
 rw[Int.toNat_natCast]
 clear h hl hW hx
 go_enter Tryz.func47,Tryz.ntmps47
 go_wp2
 go_quiet (fail)
 go_wp2
 go_ret
 exact⟨rfl,⟨rfl,rfl,rfl,zzb _,fun _ _=>rfl⟩⟩
def gCc (s:gV)(x:Tok):Bool:=(gEy x.m s.marks==x.m)&&(x.n != 10||s.lines)
theorem k76{p:Prop}(h:p:=by
  refine gA 21 (some 26) hS ?_;refine gA 22 (some 27) hS ?_;refine gA 23 (some 4) hS ?_;refine wpAnyH_done kr ?_ _;go_wp2;go_ret;exact⟨by rw[HT.out];rfl,HB.out⟩
  ):p:=h
theorem gEh (g o:Nat)(s:gV)(x:Tok)(w:World)(h:nH w g o s)(hg:g<w.heap.size):Calls Tryz.prog 132 #[.pointer (some ⟨g,o,none⟩),nT x] w fun e w' => e=.returned (.bool (gCc s x))/\Below w.heap.size w w' := by
 obtain⟨V,hV⟩:∃V,V=w.alloc (.cells #[.int .i64 x.k,.int .i64 x.t,.int .i64 x.n,.int .i64 x.m] 58):=⟨_,rfl⟩
 have hBV:Below w.heap.size w V:=by rw[hV];exact(zzd _ w).alloc (zzb _) _
 have m0:V.heap[w.heap.size]? = some (.cells #[.int .i64 x.k,.int .i64 x.t,.int .i64 x.n,.int .i64 x.m] 58 (0,0)):=by rw[hV];exact World.alloc_heap_new w _
 have hc:=fun j=>cell_of_row V w.heap.size j _ _ _ m0
 obtain⟨_,_,_,s3,_,_,s6⟩:=h.same (hBV.block g hg)
 have HWI:Hid (∀W:World,Calls Tryz.prog 159 #[.int .i64 x.m,.int .i64 s.marks] W fun e w' => e=.returned (.int .i64 (gEy x.m s.marks))/\w' = W):=fun W=>gMo _ _ W
 have k2:V.cell? ⟨w.heap.size,2,none⟩=some (.int .i64 x.n):=hc 2
 have k3:V.cell? ⟨w.heap.size,3,none⟩=some (.int .i64 x.m):=hc 3
 have HB:Hid (Below w.heap.size w V.drew):=hBV.drew
 have HV:Hid (w.alloc (.cells #[.int .i64 x.k,.int .i64 x.t,.int .i64 x.n,.int .i64 x.m] 58)=V):=hV.symm
 obtain⟨R,hR⟩:∃R,gCc s x=R:=⟨_,rfl⟩
 have hR' := hR
 unfold gCc at hR'
 unfold nT
 rw[hR]
 generalize gEy x.m s.marks=wi at *
 generalize s.marks=mk at *
 generalize s.lines=ln at *
 clear hR h hg hBV m0 hc hV
 obtain⟨xk,xt,xn,xm⟩:=x
 dsimp only at *
 by_cases d1:wi=xm
 ·have hd1:(wi==xm)=true:=by simpa using d1
  by_cases d2:xn=10
  ·have hd2:(xn==10)=true:=by simpa using d2
   (have HT:Hid (R=ln):=by show R=ln;rw[<-hR', hd1];simp[d2]);subst d2;clear hR' d1;go_enter Tryz.func132,Tryz.ntmps132;(go_wp2_with fail);rw[HV.out];refine wp_region_held_drew (S:=fun X=>X.cell? ⟨w.heap.size,2,none⟩=some (.int .i64 10)/\X.cell? ⟨w.heap.size,3,none⟩=some (.int .i64 xm)/\X.cell? ⟨g,o+3,none⟩=some (.int .i64 mk)/\X.cell? ⟨g,o+6,none⟩=some (.bool ln)) hmx ⟨k2,k3,s3,s6⟩ (fun hS=>?_);refine gA 0 (some 5) hS ?_;refine gA 1 (some 6) hS ?_ (hy:=by intro w hSw;obtain⟨k2,k3,k4,k5⟩:=hSw;go_simp;with_reducible rfl);refine gA 2 (some 7) hS ?_;refine gA 3 (some 8) hS ?_;refine gA 4 (some 9) hS ?_;refine gA 5 (some 10) hS ?_;refine gA 6 (some 11) hS ?_ (hy:=by intro w hSw;obtain⟨k2,k3,k4,k5⟩:=hSw;go_simp;with_reducible rfl);refine gA 8 (some 13) hS ?_;refine gA 9 (some 14) hS ?_ (hy:=by intro w hSw;obtain⟨k2,k3,k4,k5⟩:=hSw;go_simp;with_reducible rfl);refine gT 7 kr rfl (fun K hK=>?_);rw[if_pos (by rfl)];go_simp;refine(HWI.out _).mono ?_;rintro e Y ⟨rfl,rfl⟩;refine hK.out _ _ hS (fun _=>?_);clear hK K
   try simp only[gQ]
   refine gA 10 (some 15) hS ?_ (hy:=by intro w hSw;go_simp;(try simp only[hd1,hd2]);with_reducible rfl);refine gA 11 (some 16) hS ?_;refine gA 12 (some 17) hS ?_;refine gA 13 (some 18) hS ?_ (hy:=by intro w hSw;obtain⟨k2,k3,k4,k5⟩:=hSw;go_simp;with_reducible rfl);refine gA 14 (some 19) hS ?_ (hy:=by intro w hSw;go_simp;(try simp only[hd1,hd2]);with_reducible rfl);refine gA 15 (some 20) hS ?_;refine gA 16 (some 21) hS ?_;refine gA 17 (some 22) hS ?_;refine gA 18 (some 23) hS ?_;refine gA 19 (some 24) hS ?_;refine gA 20 (some 25) hS ?_ (hy:=by intro w hSw;obtain⟨k2,k3,k4,k5⟩:=hSw;go_simp;with_reducible rfl);exact k76
  ·have hd2:(xn==10)=false:=by simpa using d2
   (have hd3:(xn != 10)=true:=by simp[bne,hd2]);(have HT:Hid (R=true):=by show R=true;rw[<-hR', hd1];simp[bne,hd2]);clear hR' d1 d2;go_enter Tryz.func132,Tryz.ntmps132;(go_wp2_with fail);rw[HV.out];refine wp_region_held_drew (S:=fun X=>X.cell? ⟨w.heap.size,2,none⟩=some (.int .i64 xn)/\X.cell? ⟨w.heap.size,3,none⟩=some (.int .i64 xm)/\X.cell? ⟨g,o+3,none⟩=some (.int .i64 mk)/\X.cell? ⟨g,o+6,none⟩=some (.bool ln)) hmx ⟨k2,k3,s3,s6⟩ (fun hS=>?_);refine gA 0 (some 5) hS ?_;refine gA 1 (some 6) hS ?_ (hy:=by intro w hSw;obtain⟨k2,k3,k4,k5⟩:=hSw;go_simp;with_reducible rfl);refine gA 2 (some 7) hS ?_;refine gA 3 (some 8) hS ?_;refine gA 4 (some 9) hS ?_;refine gA 5 (some 10) hS ?_;refine gA 6 (some 11) hS ?_ (hy:=by intro w hSw;obtain⟨k2,k3,k4,k5⟩:=hSw;go_simp;with_reducible rfl);refine gA 8 (some 13) hS ?_;refine gA 9 (some 14) hS ?_ (hy:=by intro w hSw;obtain⟨k2,k3,k4,k5⟩:=hSw;go_simp;with_reducible rfl);refine gT 7 kr rfl (fun K hK=>?_);rw[if_pos (by rfl)];go_simp;refine(HWI.out _).mono ?_;rintro e Y ⟨rfl,rfl⟩;refine hK.out _ _ hS (fun _=>?_);clear hK K
   try simp only[gQ]
   refine gA 10 (some 15) hS ?_ (hy:=by intro w hSw;go_simp;(try simp only[hd1,hd2,hd3,Bool.not_false]);with_reducible rfl);refine gA 11 (some 16) hS ?_;refine gA 12 (some 17) hS ?_;refine gA 13 (some 18) hS ?_ (hy:=by intro w hSw;obtain⟨k2,k3,k4,k5⟩:=hSw;go_simp;with_reducible rfl);refine gA 14 (some 19) hS ?_ (hy:=by intro w hSw;go_simp;(try simp only[hd1,hd2,hd3,Bool.not_false]);with_reducible rfl);refine gA 15 (some 20) hS ?_;refine nJ 16 (some 21) (v:=undef) rfl rfl kr kr kr (fun _ _ _ h=>h) (Or.inr ⟨by rfl,rfl⟩) hS ?_
   try simp only[gQ]
   refine nJ 17 (some 22) (v:=undef) rfl rfl kr kr kr (fun _ _ _ h=>h) (Or.inr ⟨by rfl,rfl⟩) hS ?_
   try simp only[gQ]
   refine nJ 18 (some 23) (v:=undef) rfl rfl kr kr kr (fun _ _ _ h=>h) (Or.inr ⟨by rfl,rfl⟩) hS ?_
   try simp only[gQ]
   refine nJ 19 (some 24) (v:=undef) rfl rfl kr kr kr (fun _ _ _ h=>h) (Or.inr ⟨by rfl,rfl⟩) hS ?_
   try simp only[gQ]
   refine nJ 20 (some 25) (v:=undef) rfl rfl kr kr kr (fun _ _ _ h=>h) (Or.inr ⟨by rfl,rfl⟩) hS ?_
   try simp only[gQ]
   exact k76
 ·have hd1:(wi==xm)=false:=by simpa using d1
  (have HT:Hid (R=false):=by show R=false;rw[<-hR', hd1];rfl);clear hR' d1;go_enter Tryz.func132,Tryz.ntmps132;(go_wp2_with fail);rw[HV.out];refine wp_region_held_drew (S:=fun X=>X.cell? ⟨w.heap.size,2,none⟩=some (.int .i64 xn)/\X.cell? ⟨w.heap.size,3,none⟩=some (.int .i64 xm)/\X.cell? ⟨g,o+3,none⟩=some (.int .i64 mk)/\X.cell? ⟨g,o+6,none⟩=some (.bool ln)) hmx ⟨k2,k3,s3,s6⟩ (fun hS=>?_);refine gA 0 (some 5) hS ?_;refine gA 1 (some 6) hS ?_ (hy:=by intro w hSw;obtain⟨k2,k3,k4,k5⟩:=hSw;go_simp;with_reducible rfl);refine gA 2 (some 7) hS ?_;refine gA 3 (some 8) hS ?_;refine gA 4 (some 9) hS ?_;refine gA 5 (some 10) hS ?_;refine gA 6 (some 11) hS ?_ (hy:=by intro w hSw;obtain⟨k2,k3,k4,k5⟩:=hSw;go_simp;with_reducible rfl);refine gA 8 (some 13) hS ?_;refine gA 9 (some 14) hS ?_ (hy:=by intro w hSw;obtain⟨k2,k3,k4,k5⟩:=hSw;go_simp;with_reducible rfl);refine gT 7 kr rfl (fun K hK=>?_);rw[if_pos (by rfl)];go_simp;refine(HWI.out _).mono ?_;rintro e Y ⟨rfl,rfl⟩;refine hK.out _ _ hS (fun _=>?_);clear hK K
  try simp only[gQ]
  refine gA 10 (some 15) hS ?_ (hy:=by intro w hSw;go_simp;(try simp only[hd1]);with_reducible rfl);refine gA 11 (some 16) hS ?_;refine nJ 12 (some 17) (v:=undef) rfl rfl kr kr kr (fun _ _ _ h=>h) (Or.inr ⟨by rfl,rfl⟩) hS ?_
  try simp only[gQ]
  refine nJ 13 (some 18) (v:=undef) rfl rfl kr kr kr (fun _ _ _ h=>h) (Or.inr ⟨by rfl,rfl⟩) hS ?_
  try simp only[gQ]
  refine nJ 14 (some 19) (v:=undef) rfl rfl kr kr kr (fun _ _ _ h=>h) (Or.inr ⟨by rfl,rfl⟩) hS ?_
  try simp only[gQ]
  refine nJ 15 (some 20) (v:=undef) rfl rfl kr kr kr (fun _ _ _ h=>h) (Or.inr ⟨by rfl,rfl⟩) hS ?_
  try simp only[gQ]
  refine nJ 16 (some 21) (v:=undef) rfl rfl kr kr kr (fun _ _ _ h=>h) (Or.inr ⟨by rfl,rfl⟩) hS ?_
  try simp only[gQ]
  refine nJ 17 (some 22) (v:=undef) rfl rfl kr kr kr (fun _ _ _ h=>h) (Or.inr ⟨by rfl,rfl⟩) hS ?_
  try simp only[gQ]
  refine nJ 18 (some 23) (v:=undef) rfl rfl kr kr kr (fun _ _ _ h=>h) (Or.inr ⟨by rfl,rfl⟩) hS ?_
  try simp only[gQ]
  refine nJ 19 (some 24) (v:=undef) rfl rfl kr kr kr (fun _ _ _ h=>h) (Or.inr ⟨by rfl,rfl⟩) hS ?_
  try simp only[gQ]
  refine nJ 20 (some 25) (v:=undef) rfl rfl kr kr kr (fun _ _ _ h=>h) (Or.inr ⟨by rfl,rfl⟩) hS ?_
  try simp only[gQ]
  refine nJ 21 (some 26) (v:=undef) rfl rfl kr kr kr (fun _ _ _ h=>h) (Or.inr ⟨by rfl,rfl⟩) hS ?_
  try simp only[gQ]
  refine gA 22 (some 27) hS ?_;refine gA 23 (some 4) hS ?_;refine wpAnyH_done kr ?_ _;go_wp2;go_ret;exact⟨by rw[HT.out];rfl,HB.out⟩
def gCo (s:gV)(x:Tok):Bool:=(s.leaf==(x.k==3))&&decide (s.least<=x.n)&&decide (x.n<=s.most)
theorem k80{p:Prop}(h:p:=by
  go_enter Tryz.func133,Tryz.ntmps133;go_wp2
  go_quiet (fail)
  go_wp2;go_ret;exact⟨rfl,HB.out.trans ⟨rfl,rfl,rfl,zzb _,fun _ _=>rfl⟩⟩
  ):p:=h
theorem k77{p:Prop}(h:p:=by
  rw[e1,e2];go_enter Tryz.func133,Tryz.ntmps133;go_wp2
  go_quiet (fail)
  go_wp2;go_ret;exact⟨rfl,HB.out.trans ⟨rfl,rfl,rfl,zzb _,fun _ _=>rfl⟩⟩
  ):p:=h
theorem gOo (g o:Nat)(s:gV)(x:Tok)(w:World)(h:nH w g o s)(hg:g<w.heap.size):Calls Tryz.prog 133 #[.pointer (some ⟨g,o,none⟩),nT x] w fun e w' => e=.returned (.bool (gCo s x))/\Below w.heap.size w w' := by
 have hBV:Below w.heap.size w (w.alloc (.cells #[.int .i64 x.k,.int .i64 x.t,.int .i64 x.n,.int .i64 x.m] 58)):=(zzd _ w).alloc (zzb _) _
 obtain⟨_,_,s2,_,s4,s5,_⟩:=h.same (hBV.block g hg)
 have HB:Hid (Below w.heap.size w (w.alloc (.cells #[.int .i64 x.k,.int .i64 x.t,.int .i64 x.n,.int .i64 x.m] 58))):=hBV
 unfold gCo nT
 clear hBV h hg
 generalize s.leaf=lf at *
 generalize s.least=le at *
 generalize s.most=mo at *
 obtain⟨xk,xt,xn,xm⟩:=x
 dsimp only at *
 obtain⟨q,hq⟩:∃q,(lf==(xk==3))=q:=⟨_,rfl⟩
 rw[hq]
 cases q with
 | false=>
  exact k80
 | true=>
  by_cases d1:le<=xn
  ·have e1:decide (le<=xn)=true:=by simpa using d1
   by_cases d2:xn<=mo
   ·have e2:decide (xn<=mo)=true:=by simpa using d2
    exact k77
   ·have e2:decide (xn<=mo)=false:=by simpa using d2
    exact k77
  ·have e1:decide (le<=xn)=false:=by simpa using d1
   rw[e1];exact k80
def gBw (a:Option Addr)(len cap:Nat):Prop:=len<=cap/\cap<=9223372036854775807/\(a=none->cap=0)/\(∀x,a=some x->0<cap->x.spot=none)
def oB:Array Value:=#[.int .i64 0,.int .i64 0,.int .i64 0,.int .i64 0,.int .i64 0,.int .i64 0,.int .i64 0,.int .i64 0,.int .i64 0,.int .i64 0,.int .i64 0,.int .i64 0,.int .i64 0,.int .i64 0,.int .i64 0,.int .i64 0,.int .i64 0,.int .i64 0,.int .i64 0,.int .i64 0,.int .i64 0,.int .i64 0,.int .i64 0,.int .i64 0,.int .i64 0,.int .i64 0,.int .i64 0,.int .i64 0,.int .i64 0,.int .i64 0,.int .i64 0,.int .i64 0,.slice none 0 0,.int .i64 0]
theorem uX.one {v:Value}{R:List Int}{cs:Array Value}(h:uX v R cs){a:Option Addr}{n c:Nat}(hv:v=.slice a n c):cs.all (·.oneCell')=true:=by
 obtain⟨h0,h1,h2,h3,h4⟩:=h
 rw[Array.all_eq_true]
 intro i hi
 by_cases e:i<32
 ·obtain⟨z,hz⟩:=h2 i e
  rw[Array.getElem?_eq_getElem hi] at hz;rw[zzo hz]
  rfl
 ·by_cases e2:i=32
  ·subst e2
   rw[Array.getElem?_eq_getElem hi] at h3;rw[zzo h3,hv]
   rfl
  ·obtain rfl:i=33:=by omega
   rw[Array.getElem?_eq_getElem hi] at h4;rw[zzo h4]
   rfl
theorem zW:(Tryz.prog.info? 111).map (·.size)=some 34:=by kernel_rfl
theorem sN {P:Program}{ops:Array Oper}{rest:List Oper}{o:Oper}{a:Act}{w:World}{Q:Exit->Act->World->Prop}(hgd:o.guard=none)(ty:TypeId)(x y:Operand)(ho:o.op=.store ty x y)
  (g:Nat) (cells:Array Value) (hx:a.eval x=.pointer (some ⟨g,0,none⟩)) (hy:a.eval y=.agg cells) (t:TypeId) (old:Array Value) (hg:w.heap[g]? = some (.cells old t (0,0))) (hi:(P.info? ty).map (·.size)=some cells.size)
  (hold:old.size=cells.size) (h1:cells.all (·.oneCell')=true) (h:wpList P ops Q rest (a.put o.dst undef) (w.setRow g cells)):wpList P ops Q (o::rest) a w :=
 wpList_plain hgd fun _ hK=>wp_store_row ty x y ho g cells hx hy t old hg hi hold h1 (hK _ _ h)
theorem hAu {w:World}{b b' : Nat}{e:TypeId}{v:Value}{n:Nat}{xs:List Value}(h:w.ownsRow b e 1 v n xs)(hb:b' <= b):w.ownsRow b' e 1 v n xs:=by
 obtain⟨h1,h2 | ⟨g,cap,cur,h3,h4,h5⟩⟩:=h
 ·exact⟨h1,.inl h2⟩
 ·exact⟨h1,.inr ⟨g,cap,cur,h3,oo,h5⟩⟩
theorem wP {w wr:World}{v:Value}{R:List Int}(hS:Stk wr (w.heap.size+1) (w.heap.size+1) v R)(hB:Below (w.heap.size+1) (w.alloc (.cells oB 111)) wr) :
  ∃cs,wr.heap[w.heap.size+1]? = some (.cells cs 111 (0,0))/\wr.heap[w.heap.size]? = some (.cells oB 111 (0,0))/\cs.size=34/\uX v R cs/\cs.all (·.oneCell')=true ∧
   (wr.setRow w.heap.size cs).ownsRow w.heap.size 3 1 v (R.length - 32) ((R.drop 32).map (Value.int .i64))/\Below w.heap.size w (wr.setRow w.heap.size cs)/\(wr.setRow w.heap.size cs).heap[w.heap.size]? = some (.cells cs 111 (0,0))/\(wr.setRow w.heap.size cs).heap[w.heap.size+1]? = some (.cells cs 111 (0,0)):=by
 obtain⟨_,h1,cs,h2,h3⟩:=hS
 have hz:wr.heap[w.heap.size]? = some (.cells oB 111 (0,0)):=(hB.block w.heap.size oo).trans (heap_alloc_new w _)
 obtain⟨a,c,hv⟩:=gCk h1
 refine⟨cs,h2,hz,h3.1,h3,h3.one hv,?_,?_,?_,?_⟩
 ·have h4:=hAu h1 (show w.heap.size<=w.heap.size+1 by omega)
  obtain⟨k1,k2 | ⟨g,cap,cur,rfl,hb,hg,k3⟩⟩:=h1
  ·exact⟨k1,.inl k2⟩
  ·refine⟨k1,.inr ⟨g,cap,cur,rfl,oo,?_,k3⟩⟩
   rw[setRow_other _ _ _ _ oo];exact hg
 ·have h5:Below w.heap.size w wr:=((zzd _ w).alloc (zzb _) _).trans (hB.mono oo)
  exact⟨h5.os,h5.tape,h5.output,by simpa using h5.size,fun k hk=>by rw[setRow_other _ _ _ _ oo];exact h5.block k hk⟩
 ·exact setRow_heap _ _ _ _ _ _ hz
 ·rw[setRow_other _ _ _ _ oo]
  exact h2
def gTy (w:World)(R:List Int)(e:Ending)(w' : World):Prop:=∃cs v,e=.returned (.agg cs)/\uX v R cs/\w'.ownsRow w.heap.size 3 1 v (R.length - 32) ((R.drop 32).map (Value.int .i64))/\Below w.heap.size w w'
theorem k33{p:Prop}(h:p:=by
  (go_wp2_with (first | refine wpList_load_row rfl 111 _ rfl (w.heap.size+1) rfl 111 cs (0,0) _ g1 Tryz.underlying111 rfl (by rw[hz];exact zW) ?_ | refine sN rfl 111 _ _ rfl w.heap.size cs rfl rfl 111 _ g2 (by rw[hz];exact zW) (by rw[hz];rfl) h1 ?_));refine bodyPost_ret (results_cell_row rfl _ _ w.heap.size 111 cs (0,0) _ rfl g3 Tryz.underlying111 rfl (by rw[hz];exact zW)) rfl ?_;exact⟨cs,_,rfl,hc,ho,hbel⟩
  ):p:=h
theorem gTi (a:Option Addr)(len cap:Nat)(p:Int)(w:World)(hp:p<0\/(len:Int)<p):Calls Tryz.prog 77 #[.slice a len cap,.int .i64 p] w (gTy w []):=by
 have hS:Stk ((w.alloc (.cells oB 111)).alloc (.cells oB 111)) (w.heap.size+1) (w.heap.size+1) (.slice none 0 0) []:=by
  have:=yI (w.alloc (.cells oB 111))
  simp only[World.size_alloc] at this;exact this
 have hB:Below (w.heap.size+1) (w.alloc (.cells oB 111)) ((w.alloc (.cells oB 111)).alloc (.cells oB 111)):=(zzd _ _).alloc (by simp) _
 obtain⟨cs,g1,g2,hz,hc,h1,ho,hbel,g3,g4⟩:=wP hS hB
 clear hS hB
 have hd:p<0\/(decide (p<0)=false/\(len:Int)<p):=by
  by_cases h:p<0
  ·exact .inl h
  ·exact .inr ⟨by simpa using h,oo⟩
 unfold oB at *
 rcases hd with hd | ⟨hd,hd2⟩
 all_goals
  go_enter Tryz.func77,Tryz.ntmps77;exact k33
theorem k09{p:Prop}(h:p:=by
  go_enter Tryz.func77,Tryz.ntmps77;go_wp2
  go_loopw [21] (fun i w' => ∃(k:Nat) (v:Value) (R:List Int),k<=0/\i=.int .i64 (k:Int)/\R.length<=k/\Stk w' (w.heap.size+1) (w.heap.size+1) v R/\lO ((l.take 0).drop k) k R=T/\Below (w.heap.size+1) (w.alloc (.cells oB 111)) w') (fun i _=>0 - (intOf i).toNat)
  case atStart=>exact⟨0,_,[],zzn _,rfl,by simp,hS0.out,HO.out,hB0.out⟩
  case round=>
   obtain⟨k,v,R,hk,rfl,hR,hS,hT,hB⟩:=hrel;have HZ:=hB.size;rw[World.size_alloc] at HZ
   by_cases hlt:k<0
   ·omega
   ·obtain rfl:k=0:=by omega
    rw[List.drop_eq_nil_of_le (by rw[List.length_take];omega),lO] at hT;obtain⟨cs,g1,g2,hz,hc,h1,ho,hbel,g3,g4⟩:=wP hS hB;rw[hT] at hc ho;clear hS hB hT HO;unfold oB at *;(go_wp2_with (first | refine wpList_load_row rfl 111 _ rfl (w.heap.size+1) rfl 111 cs (0,0) _ g1 Tryz.underlying111 rfl (by rw[hz];exact zW) ?_ | refine sN rfl 111 _ _ rfl w.heap.size cs rfl rfl 111 _ g2 (by rw[hz];exact zW) (by rw[hz];rfl) h1 ?_));refine bodyPost_ret (results_cell_row rfl _ _ w.heap.size 111 cs (0,0) _ rfl g3 Tryz.underlying111 rfl (by rw[hz];exact zW)) rfl ?_;exact⟨cs,_,rfl,hc,ho,hbel⟩
  ):p:=h
theorem gTh (a:Option Addr)(len cap:Nat)(l:List Tok)(n:Nat)(w:World)(hl:mC w a len l)(hsz:len<=4398046511104)(hlie:gBw a len cap)(hn:n<=len):Calls Tryz.prog 77 #[.slice a len cap,.int .i64 (n:Int)] w (gTy w (gK l n)):=by
 obtain⟨hc1,hc2,ha,hspot⟩:=hlie
 have hS0:Hid (Stk ((w.alloc (.cells oB 111)).alloc (.cells oB 111)) (w.heap.size+1) (w.heap.size+1) (.slice none 0 0) []):=by
  have:=yI (w.alloc (.cells oB 111))
  simp only[World.size_alloc] at this;exact this
 have hB0:Hid (Below (w.heap.size+1) (w.alloc (.cells oB 111)) ((w.alloc (.cells oB 111)).alloc (.cells oB 111))):=(zzd _ _).alloc (by simp) _
 have HO:Hid (lO ((l.take n).drop 0) 0 []=gK l n):=by
  show _=_
  unfold gK;rw[if_pos (by rw[hl.1];omega),Int.toNat_natCast,List.drop_zero]
 have e0:decide ((n:Int)<0)=false:=by simp
 have e1:decide (len<n)=false:=by simpa using hn
 generalize hTT:gK l n=T at *
 clear hTT
 rcases Nat.eq_zero_or_pos cap with h0 | h0
 ·subst h0
  obtain rfl:len=0:=by omega
  obtain rfl:n=0:=by omega
  cases a with
  | none=>
   exact k09
  | some x=>
   exact k09
 ·cases a with
  | none=>exact absurd (ha rfl) oo
  | some x=>
   obtain⟨b,o,sp⟩:=x;obtain rfl:sp=none:=hspot _ rfl h0;go_enter Tryz.func77,Tryz.ntmps77;go_wp2
   go_loopw [21] (fun i w' => ∃(k:Nat) (v:Value) (R:List Int),k<=n/\i=.int .i64 (k:Int)/\R.length<=k/\Stk w' (w.heap.size+1) (w.heap.size+1) v R/\lO ((l.take n).drop k) k R=T/\Below (w.heap.size+1) (w.alloc (.cells oB 111)) w') (fun i _=>n - (intOf i).toNat)
   case atStart=>exact⟨0,_,[],zzn _,rfl,by simp,hS0.out,HO.out,hB0.out⟩
   case round=>
    obtain⟨k,v,R,hk,rfl,hR,hS,hT,hB⟩:=hrel;have HZ:=hB.size;rw[World.size_alloc] at HZ
    by_cases hlt:k<n
    ·obtain⟨x,hx,hst⟩:=gGh (l:=l) (N:=n) hlt (by rw[hl.1];exact hn) R
     obtain⟨b', o', x', eb,hbl,hx', hc⟩:=hl.token (k:=k) oo;cases eb;rw[hx] at hx';obtain rfl:=zzo hx';have hBw:Below w.heap.size w wr:=((zzd _ w).alloc (zzb _) _).trans (hB.mono oo);obtain⟨c0,c1,c2,c3⟩:=hc wr hBw;rw[hst] at hT;have HT:Hid (lO ((l.take n).drop (k+1)) (k+1) (lA x k R)=T):=hT
     have HP:Hid (∀o,Calls Tryz.prog 69 #[.pointer (some ⟨w.heap.size+1,0,none⟩),.int .i64 (k:Int),nT x] (wr.alloc o) fun e w' => e=.returned (.tuple #[])/\∃v', Stk w' (w.heap.size+1) (w.heap.size+1) v' (lA x k R)/\Below (w.heap.size+1) (wr.alloc o) w'):=by
      intro o;have hSo:=hS.alloc o;refine(uC (w.heap.size+1) (w.heap.size+1) v R k x _ hSo (by simp;omega) oo).mono ?_;rintro e w' ⟨e1,v', e2,e3,_⟩;exact⟨e1,v', e2,e3.below (zzb _) (fun j hj=>(oF hSo.2.1 j hj).1) (by simp;omega)⟩
     have HTL:Hid ((lA x k R).length<=k+1):=by
      show (lA x k R).length<=k+1
      unfold lA
      split<;>(try split)<;>first | omega | (simp;omega)
     clear hT hst hx hc hl hS HO hBw;generalize lA x k R=R' at *;obtain⟨xk,xt,xn,xm⟩:=x;simp only[nT] at *;(go_wp2_with fail);refine(HP.out _).mono ?_;rintro e W2 ⟨rfl,v', hS2,hB4⟩;have hB5:=(hB.alloc oo _).trans hB4;go_wp2
     go_roundw
     case rel=>exact⟨k+1,v', R', by omega,rfl,HTL.out,hS2,HT.out,hB5⟩
     case measure=>simp[intOf];omega
    ·obtain rfl:k=n:=by omega
     rw[List.drop_eq_nil_of_le (by rw[List.length_take];omega),lO] at hT;obtain⟨cs,g1,g2,hz,hc,h1,ho,hbel,g3,g4⟩:=wP hS hB;rw[hT] at hc ho;clear hS hB hT HO;unfold oB at *;exact k33
theorem gPk (a:Option Addr)(len cap:Nat)(l:List Tok)(p:Int)(w:World)(hl:mC w a len l)(hsz:len<=4398046511104)(hlie:gBw a len cap):Calls Tryz.prog 77 #[.slice a len cap,.int .i64 p] w (gTy w (gK l p)):=by
 by_cases hp:p<0\/(len:Int)<p
 ·rw[show gK l p=[] from by
   unfold gK;rw[hl.1]
   split
   ·rw[show p.toNat=0 from by omega]
    rfl
   ·rfl]
  exact gTi a len cap p w hp
 ·obtain⟨n,rfl⟩:=Int.eq_ofNat_of_zero_le (show 0<=p by omega)
  exact gTh a len cap l n w hl hsz hlie oo
theorem gZn {w W:World}{cs:Array Value}{v:Value}{R:List Int}(hc:uX v R cs)(ho:W.ownsRow w.heap.size 3 1 v (R.length - 32) ((R.drop 32).map (Value.int .i64)))(hB:Below w.heap.size w W):Stk (W.alloc (.cells cs 111)) w.heap.size W.heap.size v R :=
 ⟨hB.size,ho.alloc _,cs,heap_alloc_new W _,hc⟩
theorem zJ (a:Option Addr)(len cap:Nat)(l:List Tok)(p:Int)(w:World)(hl:mC w a len l)(hsz:len<=4398046511104)(hlie:gBw a len cap) :
  Calls Tryz.prog 40 #[.slice a len cap,.int .i64 p] w fun e w' => e=.returned (.int .i64 (gB l p))/\Below w.heap.size w w' := by
 have h1:=gPk a len cap l p w hl hsz hlie
 have hq:=yZ l p
 rw[hl.1] at hq
 unfold gB
 generalize gK l p=R at *
 obtain⟨y,hy⟩:∃y,R.getLast?.getD (-1)=y:=⟨_,rfl⟩
 rw[hy]
 go_enter Tryz.func40,Tryz.ntmps40
 go_wp2_with fail
 refine h1.mono ?_
 rintro e W ⟨cs,v,rfl,hc,ho,hB⟩
 have ht:=zY _ _ _ _ _ (gZn hc ho hB) oo
 obtain⟨a', c', hv⟩:=gCk ho
 have h1c:=hc.one hv
 have hz:=hc.1
 have hB2:=hB.alloc hB.size (.cells cs 111)
 rw[hy] at ht
 clear hc ho h1 hy
 go_wp2_with (first | (refine sN rfl 111 _ _ rfl W.heap.size cs rfl rfl 111 _ (heap_alloc_new W _) (by rw[hz];exact zW) (by rw[hz];rfl) h1c ?_;rw[World.setRow_alloc_new]) | (go_at_call 78;refine ht.mono ?_;rintro e W2 ⟨rfl,q,rfl⟩))
 go_ret
 exact⟨rfl,below_drewN hB2 _⟩
end Go.Proofs.YtjkebndkeamijaaGreatDoor
