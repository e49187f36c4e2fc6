/-
  PROVED HERE: what the texts DARSeqP, DARSeq, DARAlt say.
-/
import Derived.Test.YtjkebndkeamijaaGreatDoorCA30
set_option maxRecDepth 100000
set_option maxHeartbeats 2000000
namespace Go.Proofs.YtjkebndkeamijaaGreatDoor
open Go.RowKit
def SQ (s:ByteArray)(P:List UInt8->Option (DataW Unit)×List UInt8)(R:Option (DataW Unit)×List UInt8)(f:Bool)(l:List (DataW Unit))(j:Nat):Prop :=
 (f=false/\∃F,(left s j).length<F/\gXg 2 (jY P F l (left s j))=R)\/(f=true/\R=(none,left s j))
def SA (s:ByteArray)(P:List UInt8->Option (DataW Unit)×List UInt8)(R:Option (DataW Unit)×List UInt8)(f:Bool)(l:List (DataW Unit))(j:Nat):Prop :=
 (f=false/\∃F,(left s j).length<F/\gXg 3 (kG P F l (left s j))=R)\/(f=true/\R=(none,left s j))
def gEq (s:ByteArray)(R:Option (DataW Unit)×List UInt8)(f:Bool)(t:DataW Unit)(i j:Nat):Prop:=(f=false/\R=(some t,left s j)/\i<j/\(subs t).length+i<=j)\/(f=true/\R=(none,left s j)/\(subs t).length+i<=j+1)
theorem gEq.wid {s:ByteArray}{R:Option (DataW Unit)×List UInt8}{f:Bool}{t:DataW Unit}{i j:Nat}(h:gEq s R f t i j)(hij:i<=j):Wid f t i j:=by
 rcases h with ⟨h1,_,h2,h3⟩ | ⟨h1,_,h3⟩
 ·exact .inl ⟨h1,h2,h3⟩
 ·exact .inr ⟨h1,hij,h3⟩
theorem k99{p:Prop}(h:p:=by
  rcases h with ⟨h1,h2,_⟩ | ⟨h1,h2,_⟩
  ·rw[h2]
   exact .inl ⟨h1,(left s j).length+1,Nat.lt_succ_self _,rfl⟩
  ·rw[h2]
   exact .inr ⟨h1,rfl⟩
  ):p:=h
theorem SQ.first {s:ByteArray}{P:List UInt8->Option (DataW Unit)×List UInt8}{f:Bool}{t:DataW Unit}{i j:Nat}(h:gEq s (P (left s i)) f t i j):SQ s P (lD P (left s i)) f [t] j:=by
 unfold lD
 exact k99
theorem SQ.stop {s:ByteArray}{P:List UInt8->Option (DataW Unit)×List UInt8}{R:Option (DataW Unit)×List UInt8}{l:List (DataW Unit)}{j:Nat}(h:SQ s P R false l j)(hs:left s j=[]\/∃c q,left s j=c::q/\(c=124\/c=41)):R=(some (jV 2 l),left s j):=by
 rcases h with ⟨_,F,hF,h⟩ | ⟨h,_⟩
 ·rw[<-h]
  cases F with
  | zero=>omega
  | succ F=>
   rcases hs with hs | ⟨c,q,hs,hc⟩
   ·rw[hs,jY];rfl
   ·rw[hs,jY,if_pos hc];rfl
 ·cases h
theorem k63{p:Prop}(h:p:=by
  rcases hst with ⟨h1,h2,h3,_⟩ | ⟨h1,h2,_⟩
  ·rw[h2] at h
   refine .inl ⟨h1,F,?_,h⟩;have e1:=iL s j;have e2:=iL s j';(have e3:0<(left s j).length:=by rw[hs];exact Nat.succ_pos _);omega
  ·rw[h2] at h
   exact .inr ⟨h1,h.symm⟩
  ):p:=h
theorem SQ.next {s:ByteArray}{P:List UInt8->Option (DataW Unit)×List UInt8}{R:Option (DataW Unit)×List UInt8}{l:List (DataW Unit)}{j j' : Nat}{f:Bool}{t:DataW Unit}(h:SQ s P R false l j){c:UInt8}{q:List UInt8}(hs:left s j=c::q)(hc:¬(c=124\/c=41))(hst:gEq s (P (left s j)) f t j j'):SQ s P R f (l++[t]) j' := by
 rcases h with ⟨_,F,hF,h⟩ | ⟨h,_⟩
 ·cases F with
  | zero=>omega
  | succ F=>
   rw[hs,jY,if_neg hc,<-hs] at h;exact k63
 ·cases h
theorem SA.first {s:ByteArray}{P:List UInt8->Option (DataW Unit)×List UInt8}{f:Bool}{t:DataW Unit}{i j:Nat}(h:gEq s (P (left s i)) f t i j):SA s P (rM P (left s i)) f [t] j:=by
 unfold rM
 exact k99
theorem SA.stop {s:ByteArray}{P:List UInt8->Option (DataW Unit)×List UInt8}{R:Option (DataW Unit)×List UInt8}{l:List (DataW Unit)}{j:Nat}(h:SA s P R false l j)(hs:left s j=[]\/∃c q,left s j=c::q/\c≠124):R=(some (jV 3 l),left s j):=by
 rcases h with ⟨_,F,hF,h⟩ | ⟨h,_⟩
 ·rw[<-h]
  cases F with
  | zero=>omega
  | succ F=>
   rcases hs with hs | ⟨c,q,hs,hc⟩
   ·rw[hs,kG];rfl
   ·rw[hs,kG,if_neg hc];rfl
 ·cases h
theorem SA.next {s:ByteArray}{P:List UInt8->Option (DataW Unit)×List UInt8}{R:Option (DataW Unit)×List UInt8}{l:List (DataW Unit)}{j j' : Nat}{f:Bool}{t:DataW Unit}(h:SA s P R false l j)(hs:left s j=124::left s (j+1))(hst:gEq s (P (left s (j+1))) f t (j+1) j'):SA s P R f (l++[t]) j' := by
 rcases h with ⟨_,F,hF,h⟩ | ⟨h,_⟩
 ·cases F with
  | zero=>omega
  | succ F=>
   rw[hs,kG,if_pos rfl] at h;exact k63
 ·cases h
theorem nY.ends {kd:Int}(hkd:kd=2\/kd=3){g:Nat}{s:ByteArray}{f:Bool}{w wr:World}{i0 i:Nat}{l:List (DataW Unit)}{v:Value}{n:Nat}(h:nY kd g s f w wr i0 i l v n)(hgw:g<w.heap.size)(hs:s.size<=200)(hP:Pl s i)(hi:i0<=i){R:Option (DataW Unit)×List UInt8}(hR:(f=false/\R=(some (jV kd l),left s i))\/(f=true/\R=(none,left s i))) :
  Calls Tryz.prog 157 #[.int .i64 kd,v] wr fun e w' => ∃r,e=.returned (jI r)/\w'.heap[w.heap.size]? = some (.cells #[.int .i64 0,.string ⟨#[]⟩,.slice none 0 0] 69 (0,0))/\∀cs,gX g w (w'.setRow w.heap.size cs)/\rO g s w.heap.size i0 R (.returned (jI r)) (w'.setRow w.heap.size cs):=by
 refine(h.joins hkd hgw (Nat.le_trans hP.1 hs)).mono ?_
 rintro e w' ⟨hK,hPA,hz,hbg,r,m', rfl,hX,hG,h99,hw1,hw2⟩
 refine⟨r,rfl,hz,fun cs=>⟨hK.setRow _ _ (zzb _),i,jV kd l,m', r,f,hPA.setRow _ _ oo,hP,hi,hG,h99,?_,rfl,?_⟩⟩
 ·exact ExA.kept (by rw[size_setRow];omega) (fun b hb hA=>⟨oo,setRow_other _ _ _ _ oo⟩) _ _ _ hX
 ·rcases hR with ⟨h1,h2⟩ | ⟨h1,h2⟩
  ·exact .inl ⟨h1,h2,(hw2 h1).2,(hw2 h1).1⟩
  ·exact .inr ⟨h1,h2,hw1⟩
theorem k17{p:Prop}(h:p:=by
  have hN7:f3=false->s.size+1 - j3<gk:=by
   intro e;rcases hcase3 with ⟨_,_,h,_⟩ | ⟨h,_,_⟩
   ·have:=HK.out
    have:=hPl3.1
    omega
   ·rw[h] at e
    cases e
  (have hN8:i<=j3:=by have:=HP.out.2.1;omega);(have hN9:0<gk:=by have:=HK.out;have:=HP.out.1.1;omega);have HN7:Hid (Pl s j3/\i<=j3/\(f3=false->s.size+1 - j3<gk)/\0<gk):=⟨hPl3,hN8,hN7,hN9⟩;clear hN7 hN8 hN9 hK6 hP6 hPl3 hij3 hG3 h993 hX3 hcase3 hst hj3 hH7;(go_wp2_with (refine pG rfl _ _ 67 rfl _ _ v7 W7 rfl rfl hrun ?_));cases f3 with
  | false=>
   go_roundg (s.size+1 - j3)
   case measure=>exact HN7.out.2.2.1 rfl
   case rel=>exact⟨_,j3,l2++[t3],n2+1,false,rfl,HH7.out,HN7.out.1,HN7.out.2.1,fun _=>zzb _,HQ7.out⟩
  | true=>
   go_roundg 0
   case measure=>exact HN7.out.2.2.2
   case rel=>exact⟨_,j3,l2++[t3],n2+1,true,rfl,HH7.out,HN7.out.1,HN7.out.2.1,fun e=>(by cases e),HQ7.out⟩
  ):p:=h
theorem k13{p:Prop}(h:p:=by
  have HJ:=HJN.out wr j2 l2 v n2 true HH.out HP.out.1 HP.out.2.1 (.inr ⟨rfl,by rcases HQ.out with ⟨h,_⟩ | ⟨_,h⟩;cases h;exact h⟩);clear HJN HPT HPK HQ HH HP;(go_wp2_with fail);refine HJ.mono ?_;clear HJ;rintro e9 W9 ⟨⟨k,nm,a,ln,cp⟩,rfl,hz9,hr9⟩;have HZ:Hid (W9.heap[w.heap.size]? = some (.cells #[.int .i64 0,.string ⟨#[]⟩,.slice none 0 0] 69 (0,0))):=hz9;have HF:Hid (∀cs,gX g w (W9.setRow w.heap.size cs)/\rO g s w.heap.size i RR (.returned (jI (k,nm,a,ln,cp))) (W9.setRow w.heap.size cs)):=hr9;clear hz9 hr9;unfold jI;simp only;(go_wp2_with (refine wpList_store_row rfl 69 _ _ rfl w.heap.size #[.int .i64 k,.string nm,.slice a ln cp] rfl rfl 69 _ HZ.out gE rfl (jF _ _ _ _ _) ?_));refine bodyPost_ret (results_cell_row rfl _ _ w.heap.size 69 #[.int .i64 k,.string nm,.slice a ln cp] (0,0) _ rfl (setRow_heap _ _ _ _ _ _ HZ.out) Tryz.underlying69 rfl gE) rfl ?_;exact HF.out _
  ):p:=h
theorem k12{p:Prop}(h:p:=by
  (go_wp2_with fail);refine HPK2.mono ?_;clear HPK2;rintro e5 W5 ⟨rfl,hP5,hO5⟩;have HJ:=HJN.out W5 j2 l2 v n2 false (HH.out.next HG.out hO5.kept hP5 (zzb _)) HP.out.1 HP.out.2.1 (.inl ⟨rfl,HRR.out⟩);clear HJN HH HP hP5 hO5;(go_wp2_with fail);refine HJ.mono ?_;clear HJ;rintro e9 W9 ⟨⟨k,nm,a,ln,cp⟩,rfl,hz9,hr9⟩;have HZ:Hid (W9.heap[w.heap.size]? = some (.cells #[.int .i64 0,.string ⟨#[]⟩,.slice none 0 0] 69 (0,0))):=hz9;have HF:Hid (∀cs,gX g w (W9.setRow w.heap.size cs)/\rO g s w.heap.size i RR (.returned (jI (k,nm,a,ln,cp))) (W9.setRow w.heap.size cs)):=hr9;clear hz9 hr9;unfold jI;simp only;(go_wp2_with (refine wpList_store_row rfl 69 _ _ rfl w.heap.size #[.int .i64 k,.string nm,.slice a ln cp] rfl rfl 69 _ HZ.out gE rfl (jF _ _ _ _ _) ?_));refine bodyPost_ret (results_cell_row rfl _ _ w.heap.size 69 #[.int .i64 k,.string nm,.slice a ln cp] (0,0) _ rfl (setRow_heap _ _ _ _ _ _ HZ.out) Tryz.underlying69 rfl gE) rfl ?_;exact HF.out _
  ):p:=h
theorem gRh (g:Nat)(s:ByteArray)(n:Nat)(hs:s.size<=200)(hCH:RCH g s n)(i:Nat)(w:World)(hR:PAt w g s i false)(hi:i<=s.size)(hn:s.size - i<n+1) :
  Calls Tryz.prog 156 #[.pointer (some ⟨g,0,none⟩)] w fun e w' => gX g w w' /\ rO g s w.heap.size i (lD (iB (gZ n)) (left s i)) e w' := by
 have hmx:Tryz.prog.follows .mixedOrders=true:=by kernel_rfl
 have hgl:=hR.lt
 obtain⟨RR,hRR⟩:∃RR,lD (iB (gZ n)) (left s i)=RR:=⟨_,rfl⟩
 rw[hRR]
 have HG:Hid (g<w.heap.size):=hgl
 have HPK:Hid (∀W j,PAt W g s j false->Pl s j->Calls Tryz.prog 125 #[.pointer (some ⟨g,0,none⟩)] W fun r w' => r=.returned (.int .u8 (jD s j false))/\PAt w' g s j false/\jW g W w'):=fun W j h hj=>by
  have:=mF g s j false W h hj.1 (by have:=hj.1;omega)
  rwa [hj.stay] at this
 have HPT:Hid (∀W j,PAt W g s j false->j<=s.size->i<=j->Calls Tryz.prog 168 #[.pointer (some ⟨g,0,none⟩)] W fun e W' => gX g W W' /\ rO g s W.heap.size j (iB (gZ n) (left s j)) e W'):=fun W j h hj hij=>gNj g s n hs hCH j W h hj oo
 have HJN:Hid (∀W j l v n f,nY 2 g s f w W i j l v n->Pl s j->i<=j->((f=false/\RR=(some (jV 2 l),left s j))\/(f=true/\RR=(none,left s j)))->Calls Tryz.prog 157 #[.int .i64 2,v] W fun e w' => ∃r,e=.returned (jI r)/\w'.heap[w.heap.size]? = some (.cells #[.int .i64 0,.string ⟨#[]⟩,.slice none 0 0] 69 (0,0))/\∀cs,gX g w (w'.setRow w.heap.size cs)/\rO g s w.heap.size i RR (.returned (jI r)) (w'.setRow w.heap.size cs)):=fun W j l v n f h1 h2 h3 h4=>h1.ends oo hgl hs h2 h3 h4
 have HR:Hid (∀o,PAt (w.alloc o) g s i false):=fun o=>hR.alloc o
 have HI:Hid (i<=s.size/\s.size<=200):=⟨hi,hs⟩
 have HQ0:Hid (∀f t j,gEq s (iB (gZ n) (left s i)) f t i j->SQ s (iB (gZ n)) RR f [t] j):=fun f t j h=>hRR▸SQ.first h
 clear hR hCH hn hgl hRR hi hs
 go_enter Tryz.func156,Tryz.ntmps156
 go_wp2_with fail
 refine(HPT.out _ i (HR.out _) HI.out.1 (zzb _)).mono ?_
 rintro e1 W1 ⟨hK1,j,t,m,⟨k,nm,a,ln,cp⟩,f,hP1,hPl,hij,hG,h99,hX,rfl,hcase⟩
 unfold jI at hX ⊢
 simp only at hX ⊢
 have hH:=nY.start 2 HG.out rfl hK1 hP1 hG h99 hX (gEq.wid hcase hij)
 have HQ:Hid (SQ s (iB (gZ n)) RR f [t] j):=HQ0.out _ _ _ hcase
 clear hK1 hP1 hG h99 hX hcase HR HQ0
 go_wp2
 go_loopg [3] (s.size+1 - j) (fun gk u w' => ∃v j l c f,v=u/\nY 2 g s f w w' i j l v c/\Pl s j/\i<=j/\(f=false->s.size+1 - j<=gk)/\SQ s (iB (gZ n)) RR f l j)
 case atStart=>exact⟨_,j,[t],1,f,rfl,hH,hPl,hij,fun _=>zzb _,HQ.out⟩
 case round=>
  clear HQ hH hPl hij;obtain⟨v,j2,l2,n2,f2,hvu,hH,hPl,hij,hgk,hq⟩:=hrel;subst hvu;have HQ:Hid (SQ s (iB (gZ n)) RR f2 l2 j2):=hq;have HH:Hid (nY 2 g s f2 w wr i j2 l2 v n2):=hH;obtain⟨g0,g1,g2,g3,g4⟩:=hH.pat.cells;have HP:Hid (Pl s j2/\i<=j2/\(f2=false->s.size+1 - j2<=gk)/\j2<=200):=⟨hPl,hij,hgk,Nat.le_trans hPl.1 HI.out.2⟩;clear hH hq hPl hij hgk;cases f2 with
  | true=>
   exact k13
  | false=>
   have HK:Hid (s.size+1 - j2<=gk):=HP.out.2.2.1 rfl;have HPK2:=HPK.out wr j2 HH.out.pat HP.out.1;rcases tX HP.out.1.1 with ⟨hl,hk⟩ | ⟨c,q,hl,hk,hq,hlt⟩
   all_goals rw[HP.out.1.stay] at hl hk
   ·rw[hk] at HPK2
    have HRR:Hid (RR=(some (jV 2 l2),left s j2)):=HQ.out.stop (.inl hl);clear HPK HPT HQ hl hk;exact k12
   ·rw[hk] at HPK2
    (have hk0:max (c.toNat:Int) 1≠0:=by omega);rw[HP.out.1.stay] at hq hlt
    by_cases hc:c=124\/c=41
    ·have HRR:Hid (RR=(some (jV 2 l2),left s j2)):=HQ.out.stop (.inr ⟨c,q,hl,hc⟩)
     have hv:max (c.toNat:Int) 1=124\/max (c.toNat:Int) 1=41:=by
      rcases hc with rfl | rfl
      ·exact .inl rfl
      ·exact .inr rfl
     clear HPK HPT HQ hl hk hc hq hlt hk0;rcases hv with hv | hv
     all_goals
      rw[hv] at HPK2;clear hv;exact k12
    ·have h124:max (c.toNat:Int) 1≠124:=fun e=>hc (.inl ((qJ (n:=124) (by decide) (by decide)).1 e))
     (have h41:max (c.toNat:Int) 1≠41:=fun e=>hc (.inr ((qJ (n:=41) (by decide) (by decide)).1 e)));generalize max (c.toNat:Int) 1=C at *;(have b0:(C==0)=false:=by rw[beq_eq_false_iff_ne];exact hk0);(have b1:(C==124)=false:=by rw[beq_eq_false_iff_ne];exact h124);(have b2:(C==41)=false:=by rw[beq_eq_false_iff_ne];exact h41);have HL:Hid (left s j2=c::q/\¬(c=124\/c=41)):=⟨hl,hc⟩;clear hk0 h124 h41 hk hl hc hq hlt HPK HJN;(go_wp2_with fail);refine HPK2.mono ?_;clear HPK2;rintro e5 W5 ⟨rfl,hP5,hO5⟩;have HH5:Hid (nY 2 g s false w W5 i j2 l2 v n2):=HH.out.next HG.out hO5.kept hP5 (zzb _);have HPT2:=HPT.out W5 j2 hP5 HP.out.1.1 HP.out.2.1;clear HH HPT hP5 hO5 g0 g1 g2 g3 g4;(go_wp2_with fail);refine HPT2.mono ?_;clear HPT2 b0 b1 b2;rintro e6 W6 ⟨hK6,j3,t3,m3,⟨k3,nm3,a3,ln3,cp3⟩,f3,hP6,hPl3,hij3,hG3,h993,hX3,rfl,hcase3⟩;unfold jI at hX3 ⊢;simp only at hX3 ⊢;have hst:gEq s (iB (gZ n) (left s j2)) f3 t3 j2 j3:=hcase3;have hj3:j3<=200:=Nat.le_trans hPl3.1 HI.out.2;obtain⟨v7,W7,hrun,hH7⟩:=HH5.out.append (i1:=j2) HG.out hK6 hP6 oo hG3 h993 hX3 (hst.wid hij3) hj3;have HH7:Hid (nY 2 g s f3 w W7 i j3 (l2++[t3]) v7 (n2+1)):=hH7;have HQ7:Hid (SQ s (iB (gZ n)) RR f3 (l2++[t3]) j3):=HQ.out.next HL.out.1 HL.out.2 hst;exact k17
theorem gRx (g:Nat)(s:ByteArray)(n:Nat)(hs:s.size<=200)(hCH:RCH g s n)(i:Nat)(w:World)(hR:PAt w g s i false)(hi:i<=s.size)(hn:s.size - i<n+1) :
  Calls Tryz.prog 126 #[.pointer (some ⟨g,0,none⟩)] w fun e w' => gX g w w' /\ rO g s w.heap.size i (rM (lD (iB (gZ n))) (left s i)) e w' := by
 have hmx:Tryz.prog.follows .mixedOrders=true:=by kernel_rfl
 have hgl:=hR.lt
 obtain⟨RR,hRR⟩:∃RR,rM (lD (iB (gZ n))) (left s i)=RR:=⟨_,rfl⟩
 rw[hRR]
 have HG:Hid (g<w.heap.size):=hgl
 have HPK:Hid (∀W j,PAt W g s j false->Pl s j->Calls Tryz.prog 125 #[.pointer (some ⟨g,0,none⟩)] W fun r w' => r=.returned (.int .u8 (jD s j false))/\PAt w' g s j false/\jW g W w'):=fun W j h hj=>by
  have:=mF g s j false W h hj.1 (by have:=hj.1;omega)
  rwa [hj.stay] at this
 have HPT:Hid (∀W j,PAt W g s j false->j<=s.size->i<=j->Calls Tryz.prog 156 #[.pointer (some ⟨g,0,none⟩)] W fun e W' => gX g W W' /\ rO g s W.heap.size j (lD (iB (gZ n)) (left s j)) e W'):=fun W j h hj hij=>gRh g s n hs hCH j W h hj oo
 have HJN:Hid (∀W j l v n f,nY 3 g s f w W i j l v n->Pl s j->i<=j->((f=false/\RR=(some (jV 3 l),left s j))\/(f=true/\RR=(none,left s j)))->Calls Tryz.prog 157 #[.int .i64 3,v] W fun e w' => ∃r,e=.returned (jI r)/\w'.heap[w.heap.size]? = some (.cells #[.int .i64 0,.string ⟨#[]⟩,.slice none 0 0] 69 (0,0))/\∀cs,gX g w (w'.setRow w.heap.size cs)/\rO g s w.heap.size i RR (.returned (jI r)) (w'.setRow w.heap.size cs)):=fun W j l v n f h1 h2 h3 h4=>h1.ends oo hgl hs h2 h3 h4
 have HR:Hid (∀o,PAt (w.alloc o) g s i false):=fun o=>hR.alloc o
 have HI:Hid (i<=s.size/\s.size<=200):=⟨hi,hs⟩
 have HQ0:Hid (∀f t j,gEq s (lD (iB (gZ n)) (left s i)) f t i j->SA s (lD (iB (gZ n))) RR f [t] j):=fun f t j h=>hRR▸SA.first h
 clear hR hCH hn hgl hRR hi hs
 go_enter Tryz.func126,Tryz.ntmps126
 go_wp2_with fail
 refine(HPT.out _ i (HR.out _) HI.out.1 (zzb _)).mono ?_
 rintro e1 W1 ⟨hK1,j,t,m,⟨k,nm,a,ln,cp⟩,f,hP1,hPl,hij,hG,h99,hX,rfl,hcase⟩
 unfold jI at hX ⊢
 simp only at hX ⊢
 have hH:=nY.start 3 HG.out rfl hK1 hP1 hG h99 hX (gEq.wid hcase hij)
 have HQ:Hid (SA s (lD (iB (gZ n))) RR f [t] j):=HQ0.out _ _ _ hcase
 clear hK1 hP1 hG h99 hX hcase HR HQ0
 go_wp2
 go_loopg [3] (s.size+1 - j) (fun gk u w' => ∃v j l c f,v=u/\nY 3 g s f w w' i j l v c/\Pl s j/\i<=j/\(f=false->s.size+1 - j<=gk)/\SA s (lD (iB (gZ n))) RR f l j)
 case atStart=>exact⟨_,j,[t],1,f,rfl,hH,hPl,hij,fun _=>zzb _,HQ.out⟩
 case round=>
  clear HQ hH hPl hij;obtain⟨v,j2,l2,n2,f2,hvu,hH,hPl,hij,hgk,hq⟩:=hrel;subst hvu;have HQ:Hid (SA s (lD (iB (gZ n))) RR f2 l2 j2):=hq;have HH:Hid (nY 3 g s f2 w wr i j2 l2 v n2):=hH;obtain⟨g0,g1,g2,g3,g4⟩:=hH.pat.cells;have HP:Hid (Pl s j2/\i<=j2/\(f2=false->s.size+1 - j2<=gk)/\j2<=200):=⟨hPl,hij,hgk,Nat.le_trans hPl.1 HI.out.2⟩;clear hH hq hPl hij hgk;cases f2 with
  | true=>
   exact k13
  | false=>
   have HK:Hid (s.size+1 - j2<=gk):=HP.out.2.2.1 rfl;have HPK2:=HPK.out wr j2 HH.out.pat HP.out.1
   have hcs:(∃q,left s j2=124::q/\jD s j2 false=124/\left s (j2+1)=q/\j2<s.size)\/((left s j2=[]\/∃c q,left s j2=c::q/\c≠124)/\(jD s j2 false==124)=false):=by
    have h0:=tX HP.out.1.1;rw[HP.out.1.stay] at h0;rcases h0 with ⟨hl,hk⟩ | ⟨c,q,hl,hk,hq,hlt⟩
    ·exact .inr ⟨.inl hl,by rw[hk];rfl⟩
    ·by_cases hc:c=124
     ·subst hc
      exact .inl ⟨q,hl,hk,hq,hlt⟩
     ·refine .inr ⟨.inr ⟨c,q,hl,hc⟩,?_⟩
      rw[hk,beq_eq_false_iff_ne];exact fun e=>hc ((qJ (n:=124) (by decide) (by decide)).1 e)
   rcases hcs with ⟨q,hl,hk,hq,hlt⟩ | ⟨hst0,hb⟩
   ·rw[hk] at HPK2
    have HL:Hid (left s j2=124::left s (j2+1)/\j2<s.size):=⟨by rw[hq];exact hl,hlt⟩;have hj2:j2<=200:=HP.out.2.2.2;clear HPK HJN hl hk hq hlt;(go_wp2_with fail);refine HPK2.mono ?_;clear HPK2;rintro e5 W5 ⟨rfl,hP5,hO5⟩;clear g0 g1 g2 g3 g4;obtain⟨g0,g1,g2,g3,g4⟩:=hP5.cells;obtain⟨W8,hW8⟩:∃W8,W8=W5.setCell ⟨g,1,none⟩ (.int .i64 ((j2:Nat)+1)):=⟨_,rfl⟩;(have hP8:PAt W8 g s (j2+1) false:=by rw[hW8];exact hP5.next (j2+1));have hK8:gX g W5 W8:=⟨by rw[hW8];rfl,by rw[hW8];rfl,by rw[hW8];rfl,by rw[hW8];simp,fun b _ hb=>by rw[hW8];exact zzh _ _ _ _ hb⟩;have HH5:Hid (nY 3 g s false w W8 i (j2+1) l2 v n2):=HH.out.next HG.out (hO5.kept.trans hK8) hP8 oo;have HPT2:=HPT.out W8 (j2+1) hP8 HL.out.2 (by have:=HP.out.2.1;omega);have HW8:Hid (W8=W5.setCell ⟨g,1,none⟩ (.int .i64 ((j2:Nat)+1))):=hW8;clear HH HPT hP5 hO5 hW8 hP8 hK8;(go_wp2_with fail);rw[<-HW8.out];clear g0 g1 g2 g3 g4 HW8;refine HPT2.mono ?_;clear HPT2;rintro e6 W6 ⟨hK6,j3,t3,m3,⟨k3,nm3,a3,ln3,cp3⟩,f3,hP6,hPl3,hij3,hG3,h993,hX3,rfl,hcase3⟩;unfold jI at hX3 ⊢;simp only at hX3 ⊢;have hst:gEq s (lD (iB (gZ n)) (left s (j2+1))) f3 t3 (j2+1) j3:=hcase3;have hj3:j3<=200:=Nat.le_trans hPl3.1 HI.out.2;obtain⟨v7,W7,hrun,hH7⟩:=HH5.out.append (i1:=(j2+1)) HG.out hK6 hP6 oo hG3 h993 hX3 (hst.wid hij3) hj3;have HH7:Hid (nY 3 g s f3 w W7 i j3 (l2++[t3]) v7 (n2+1)):=hH7;have HQ7:Hid (SA s (lD (iB (gZ n))) RR f3 (l2++[t3]) j3):=HQ.out.next HL.out.1 hst;exact k17
   ·have HRR:Hid (RR=(some (jV 3 l2),left s j2)):=HQ.out.stop hst0
    generalize jD s j2 false=C at *;clear HPK HPT HQ hst0;exact k12
theorem RCH.all (g:Nat)(s:ByteArray)(hs:s.size<=200):∀n,RCH g s n:=by
 intro n
 induction n with
 | zero=>intro W i _ _ h;exact absurd h oo
 | succ n ih=>intro W i hR hi hn;exact gRx g s n hs ih i W hR hi hn
end Go.Proofs.YtjkebndkeamijaaGreatDoor
