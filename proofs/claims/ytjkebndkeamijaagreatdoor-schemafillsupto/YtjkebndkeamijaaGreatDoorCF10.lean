/-
  PROVED HERE: what the texts DFRSeqP, DFRSeq, DFRAlt, DFAuto, DFLays say.
-/
import Derived.Test.YtjkebndkeamijaaGreatDoorCF9
set_option maxRecDepth 100000
set_option maxHeartbeats 2000000
namespace Go.Proofs.YtjkebndkeamijaaGreatDoor
open Go.RowKit
def SQ (s:ByteArray)(P:List UInt8->Option (DataW Unit)×List UInt8)(R:Option (DataW Unit)×List UInt8)(f:Bool)(l:List (DataW Unit))(j:Nat):Prop :=
 (f=false/\∃F,(left s j).length<F/\mapJ 2 (seqLoop P F l (left s j))=R)\/(f=true/\R=(none,left s j))
def SA (s:ByteArray)(P:List UInt8->Option (DataW Unit)×List UInt8)(R:Option (DataW Unit)×List UInt8)(f:Bool)(l:List (DataW Unit))(j:Nat):Prop :=
 (f=false/\∃F,(left s j).length<F/\mapJ 3 (altLoop P F l (left s j))=R)\/(f=true/\R=(none,left s j))
def Step (s:ByteArray)(R:Option (DataW Unit)×List UInt8)(f:Bool)(t:DataW Unit)(i j:Nat):Prop:=(f=false/\R=(some t,left s j)/\i<j/\(subs t).length+i<=j)\/(f=true/\R=(none,left s j)/\(subs t).length+i<=j+1)
theorem Step.wid {s:ByteArray}{R:Option (DataW Unit)×List UInt8}{f:Bool}{t:DataW Unit}{i j:Nat}(h:Step s R f t i j)(hij:i<=j):Wid f t i j:=by
 rcases h with ⟨h1,_,h2,h3⟩ | ⟨h1,_,h3⟩
 ·exact .inl ⟨h1,h2,h3⟩
 ·exact .inr ⟨h1,hij,h3⟩
theorem k79{p:Prop}(h:p:=by
  rcases h with ⟨h1,h2,_⟩ | ⟨h1,h2,_⟩
  ·rw[h2]
   exact .inl ⟨h1,(left s j).length+1,Nat.lt_succ_self _,rfl⟩
  ·rw[h2]
   exact .inr ⟨h1,rfl⟩
  ):p:=h
theorem SQ.first {s:ByteArray}{P:List UInt8->Option (DataW Unit)×List UInt8}{f:Bool}{t:DataW Unit}{i j:Nat}(h:Step s (P (left s i)) f t i j):SQ s P (seqL P (left s i)) f [t] j:=by
 unfold seqL
 exact k79
theorem SQ.stop {s:ByteArray}{P:List UInt8->Option (DataW Unit)×List UInt8}{R:Option (DataW Unit)×List UInt8}{l:List (DataW Unit)}{j:Nat}(h:SQ s P R false l j)(hs:left s j=[]\/∃c q,left s j=c::q/\(c=124\/c=41)):R=(some (joinT 2 l),left s j):=by
 rcases h with ⟨_,F,hF,h⟩ | ⟨h,_⟩
 ·rw[<-h]
  cases F with
  | zero=>omega
  | succ F=>
   rcases hs with hs | ⟨c,q,hs,hc⟩
   ·rw[hs,seqLoop];rfl
   ·rw[hs,seqLoop,if_pos hc];rfl
 ·cases h
theorem k47{p:Prop}(h:p:=by
  rcases hst with ⟨h1,h2,h3,_⟩ | ⟨h1,h2,_⟩
  ·rw[h2] at h
   refine .inl ⟨h1,F,?_,h⟩;have e1:=left_length s j;have e2:=left_length s j';(have e3:0<(left s j).length:=by rw[hs];exact Nat.succ_pos _);omega
  ·rw[h2] at h
   exact .inr ⟨h1,h.symm⟩
  ):p:=h
theorem SQ.next {s:ByteArray}{P:List UInt8->Option (DataW Unit)×List UInt8}{R:Option (DataW Unit)×List UInt8}{l:List (DataW Unit)}{j j' : Nat}{f:Bool}{t:DataW Unit}(h:SQ s P R false l j){c:UInt8}{q:List UInt8}(hs:left s j=c::q)(hc:¬(c=124\/c=41))(hst:Step s (P (left s j)) f t j j'):SQ s P R f (l++[t]) j' := by
 rcases h with ⟨_,F,hF,h⟩ | ⟨h,_⟩
 ·cases F with
  | zero=>omega
  | succ F=>
   rw[hs,seqLoop,if_neg hc,<-hs] at h;exact k47
 ·cases h
theorem SA.first {s:ByteArray}{P:List UInt8->Option (DataW Unit)×List UInt8}{f:Bool}{t:DataW Unit}{i j:Nat}(h:Step s (P (left s i)) f t i j):SA s P (altL P (left s i)) f [t] j:=by
 unfold altL
 exact k79
theorem SA.stop {s:ByteArray}{P:List UInt8->Option (DataW Unit)×List UInt8}{R:Option (DataW Unit)×List UInt8}{l:List (DataW Unit)}{j:Nat}(h:SA s P R false l j)(hs:left s j=[]\/∃c q,left s j=c::q/\c≠124):R=(some (joinT 3 l),left s j):=by
 rcases h with ⟨_,F,hF,h⟩ | ⟨h,_⟩
 ·rw[<-h]
  cases F with
  | zero=>omega
  | succ F=>
   rcases hs with hs | ⟨c,q,hs,hc⟩
   ·rw[hs,altLoop];rfl
   ·rw[hs,altLoop,if_neg hc];rfl
 ·cases h
theorem SA.next {s:ByteArray}{P:List UInt8->Option (DataW Unit)×List UInt8}{R:Option (DataW Unit)×List UInt8}{l:List (DataW Unit)}{j j' : Nat}{f:Bool}{t:DataW Unit}(h:SA s P R false l j)(hs:left s j=124::left s (j+1))(hst:Step s (P (left s (j+1))) f t (j+1) j'):SA s P R f (l++[t]) j' := by
 rcases h with ⟨_,F,hF,h⟩ | ⟨h,_⟩
 ·cases F with
  | zero=>omega
  | succ F=>
   rw[hs,altLoop,if_pos rfl] at h;exact k47
 ·cases h
theorem HeldQ.ends {kd:Int}(hkd:kd=2\/kd=3){g:Nat}{s:ByteArray}{f:Bool}{w wr:World}{i0 i:Nat}{l:List (DataW Unit)}{v:Value}{n:Nat}(h:HeldQ kd g s f w wr i0 i l v n)(hgw:g<w.heap.size)(hs:s.size<=200)(hP:Pl s i)(hi:i0<=i){R:Option (DataW Unit)×List UInt8}(hR:(f=false/\R=(some (joinT kd l),left s i))\/(f=true/\R=(none,left s i))) :
  Calls Tryz.prog 157 #[.int .i64 kd,v] wr fun e w' => ∃r,e=.returned (rawV r)/\w'.heap[w.heap.size]? = some (.cells #[.int .i64 0,.string ⟨#[]⟩,.slice none 0 0] 69 (0,0))/\∀cs,Kept g w (w'.setRow w.heap.size cs)/\RSaid g s w.heap.size i0 R (.returned (rawV r)) (w'.setRow w.heap.size cs):=by
 refine(h.joins hkd hgw (Nat.le_trans hP.1 hs)).mono ?_
 rintro e w' ⟨hK,hPA,hz,hbg,r,m', rfl,hX,hG,h99,hw1,hw2⟩
 refine⟨r,rfl,hz,fun cs=>⟨hK.setRow _ _ (zzb _),i,joinT kd l,m', r,f,hPA.setRow _ _ oo,hP,hi,hG,h99,?_,rfl,?_⟩⟩
 ·exact ExA.kept (by rw[size_setRow];omega) (fun b hb hA=>⟨oo,setRow_other _ _ _ _ oo⟩) _ _ _ hX
 ·rcases hR with ⟨h1,h2⟩ | ⟨h1,h2⟩
  ·exact .inl ⟨h1,h2,(hw2 h1).2,(hw2 h1).1⟩
  ·exact .inr ⟨h1,h2,hw1⟩
theorem k16{p:Prop}(h:p:=by
  have hN7:f3=false->s.size+1 - j3<gk:=by
   intro e;rcases hcase3 with ⟨_,_,h,_⟩ | ⟨h,_,_⟩
   ·have:=HK.out
    have:=hPl3.1
    omega
   ·rw[h] at e
    cases e
  (have hN8:i<=j3:=by have:=HP.out.2.1;omega);(have hN9:0<gk:=by have:=HK.out;have:=HP.out.1.1;omega);have HN7:Hid (Pl s j3/\i<=j3/\(f3=false->s.size+1 - j3<gk)/\0<gk):=⟨hPl3,hN8,hN7,hN9⟩;clear hN7 hN8 hN9 hK6 hP6 hPl3 hij3 hG3 h993 hX3 hcase3 hst hj3 hH7;(go_wp2_with (refine wpList_run_append5 rfl _ _ 67 rfl _ _ v7 W7 rfl rfl hrun ?_));cases f3 with
  | false=>
   go_roundg (s.size+1 - j3)
   case measure=>exact HN7.out.2.2.1 rfl
   case rel=>exact⟨_,j3,l2++[t3],n2+1,false,rfl,HH7.out,HN7.out.1,HN7.out.2.1,fun _=>zzb _,HQ7.out⟩
  | true=>
   go_roundg 0
   case measure=>exact HN7.out.2.2.2
   case rel=>exact⟨_,j3,l2++[t3],n2+1,true,rfl,HH7.out,HN7.out.1,HN7.out.2.1,fun e=>(by cases e),HQ7.out⟩
  ):p:=h
theorem k12{p:Prop}(h:p:=by
  have HJ:=HJN.out wr j2 l2 v n2 true HH.out HP.out.1 HP.out.2.1 (.inr ⟨rfl,by rcases HQ.out with ⟨h,_⟩ | ⟨_,h⟩;cases h;exact h⟩);clear HJN HPT HPK HQ HH HP;(go_wp2_with fail);refine HJ.mono ?_;clear HJ;rintro e9 W9 ⟨⟨k,nm,a,ln,cp⟩,rfl,hz9,hr9⟩;have HZ:Hid (W9.heap[w.heap.size]? = some (.cells #[.int .i64 0,.string ⟨#[]⟩,.slice none 0 0] 69 (0,0))):=hz9;have HF:Hid (∀cs,Kept g w (W9.setRow w.heap.size cs)/\RSaid g s w.heap.size i RR (.returned (rawV (k,nm,a,ln,cp))) (W9.setRow w.heap.size cs)):=hr9;clear hz9 hr9;unfold rawV;simp only;(go_wp2_with (refine wpList_store_row rfl 69 _ _ rfl w.heap.size #[.int .i64 k,.string nm,.slice a ln cp] rfl rfl 69 _ HZ.out sizeExpr rfl (ones3 _ _ _ _ _) ?_));refine bodyPost_ret (results_cell_row rfl _ _ w.heap.size 69 #[.int .i64 k,.string nm,.slice a ln cp] (0,0) _ rfl (setRow_heap _ _ _ _ _ _ HZ.out) Tryz.underlying69 rfl sizeExpr) rfl ?_;exact HF.out _
  ):p:=h
theorem k11{p:Prop}(h:p:=by
  (go_wp2_with fail);refine HPK2.mono ?_;clear HPK2;rintro e5 W5 ⟨rfl,hP5,hO5⟩;have HJ:=HJN.out W5 j2 l2 v n2 false (HH.out.next HG.out hO5.kept hP5 (zzb _)) HP.out.1 HP.out.2.1 (.inl ⟨rfl,HRR.out⟩);clear HJN HH HP hP5 hO5;(go_wp2_with fail);refine HJ.mono ?_;clear HJ;rintro e9 W9 ⟨⟨k,nm,a,ln,cp⟩,rfl,hz9,hr9⟩;have HZ:Hid (W9.heap[w.heap.size]? = some (.cells #[.int .i64 0,.string ⟨#[]⟩,.slice none 0 0] 69 (0,0))):=hz9;have HF:Hid (∀cs,Kept g w (W9.setRow w.heap.size cs)/\RSaid g s w.heap.size i RR (.returned (rawV (k,nm,a,ln,cp))) (W9.setRow w.heap.size cs)):=hr9;clear hz9 hr9;unfold rawV;simp only;(go_wp2_with (refine wpList_store_row rfl 69 _ _ rfl w.heap.size #[.int .i64 k,.string nm,.slice a ln cp] rfl rfl 69 _ HZ.out sizeExpr rfl (ones3 _ _ _ _ _) ?_));refine bodyPost_ret (results_cell_row rfl _ _ w.heap.size 69 #[.int .i64 k,.string nm,.slice a ln cp] (0,0) _ rfl (setRow_heap _ _ _ _ _ _ HZ.out) Tryz.underlying69 rfl sizeExpr) rfl ?_;exact HF.out _
  ):p:=h
theorem rseq_calls (g:Nat)(s:ByteArray)(n:Nat)(hs:s.size<=200)(hCH:RCH g s n)(i:Nat)(w:World)(hR:PAt w g s i false)(hi:i<=s.size)(hn:s.size - i<n+1) :
  Calls Tryz.prog 156 #[.pointer (some ⟨g,0,none⟩)] w fun e w' => Kept g w w' /\ RSaid g s w.heap.size i (seqL (partL (altN n)) (left s i)) e w' := by
 have hmx:Tryz.prog.follows .mixedOrders=true:=by kernel_rfl
 have hgl:=hR.lt
 obtain⟨RR,hRR⟩:∃RR,seqL (partL (altN n)) (left s i)=RR:=⟨_,rfl⟩
 rw[hRR]
 have HG:Hid (g<w.heap.size):=hgl
 have HPK:Hid (∀W j,PAt W g s j false->Pl s j->Calls Tryz.prog 125 #[.pointer (some ⟨g,0,none⟩)] W fun r w' => r=.returned (.int .u8 (peekC s j false))/\PAt w' g s j false/\Only g W w'):=fun W j h hj=>by
  have:=peek_calls g s j false W h hj.1 (by have:=hj.1;omega)
  rwa [hj.stay] at this
 have HPT:Hid (∀W j,PAt W g s j false->j<=s.size->i<=j->Calls Tryz.prog 168 #[.pointer (some ⟨g,0,none⟩)] W fun e W' => Kept g W W' /\ RSaid g s W.heap.size j (partL (altN n) (left s j)) e W'):=fun W j h hj hij=>rpart_calls g s n hs hCH j W h hj oo
 have HJN:Hid (∀W j l v n f,HeldQ 2 g s f w W i j l v n->Pl s j->i<=j->((f=false/\RR=(some (joinT 2 l),left s j))\/(f=true/\RR=(none,left s j)))->Calls Tryz.prog 157 #[.int .i64 2,v] W fun e w' => ∃r,e=.returned (rawV r)/\w'.heap[w.heap.size]? = some (.cells #[.int .i64 0,.string ⟨#[]⟩,.slice none 0 0] 69 (0,0))/\∀cs,Kept g w (w'.setRow w.heap.size cs)/\RSaid g s w.heap.size i RR (.returned (rawV r)) (w'.setRow w.heap.size cs)):=fun W j l v n f h1 h2 h3 h4=>h1.ends oo hgl hs h2 h3 h4
 have HR:Hid (∀o,PAt (w.alloc o) g s i false):=fun o=>hR.alloc o
 have HI:Hid (i<=s.size/\s.size<=200):=⟨hi,hs⟩
 have HQ0:Hid (∀f t j,Step s (partL (altN n) (left s i)) f t i j->SQ s (partL (altN n)) RR f [t] j):=fun f t j h=>hRR▸SQ.first h
 clear hR hCH hn hgl hRR hi hs
 go_enter Tryz.func156,Tryz.ntmps156
 go_wp2_with fail
 refine(HPT.out _ i (HR.out _) HI.out.1 (zzb _)).mono ?_
 rintro e1 W1 ⟨hK1,j,t,m,⟨k,nm,a,ln,cp⟩,f,hP1,hPl,hij,hG,h99,hX,rfl,hcase⟩
 unfold rawV at hX ⊢
 simp only at hX ⊢
 have hH:=HeldQ.start 2 HG.out rfl hK1 hP1 hG h99 hX (Step.wid hcase hij)
 have HQ:Hid (SQ s (partL (altN n)) RR f [t] j):=HQ0.out _ _ _ hcase
 clear hK1 hP1 hG h99 hX hcase HR HQ0
 go_wp2
 go_loopg [3] (s.size+1 - j) (fun gk u w' => ∃v j l c f,v=u/\HeldQ 2 g s f w w' i j l v c/\Pl s j/\i<=j/\(f=false->s.size+1 - j<=gk)/\SQ s (partL (altN n)) RR f l j)
 case atStart=>exact⟨_,j,[t],1,f,rfl,hH,hPl,hij,fun _=>zzb _,HQ.out⟩
 case round=>
  clear HQ hH hPl hij;obtain⟨v,j2,l2,n2,f2,hvu,hH,hPl,hij,hgk,hq⟩:=hrel;subst hvu;have HQ:Hid (SQ s (partL (altN n)) RR f2 l2 j2):=hq;have HH:Hid (HeldQ 2 g s f2 w wr i j2 l2 v n2):=hH;obtain⟨g0,g1,g2,g3,g4⟩:=hH.pat.cells;have HP:Hid (Pl s j2/\i<=j2/\(f2=false->s.size+1 - j2<=gk)/\j2<=200):=⟨hPl,hij,hgk,Nat.le_trans hPl.1 HI.out.2⟩;clear hH hq hPl hij hgk;cases f2 with
  | true=>
   exact k12
  | false=>
   have HK:Hid (s.size+1 - j2<=gk):=HP.out.2.2.1 rfl;have HPK2:=HPK.out wr j2 HH.out.pat HP.out.1;rcases rk_left HP.out.1.1 with ⟨hl,hk⟩ | ⟨c,q,hl,hk,hq,hlt⟩
   all_goals rw[HP.out.1.stay] at hl hk
   ·rw[hk] at HPK2
    have HRR:Hid (RR=(some (joinT 2 l2),left s j2)):=HQ.out.stop (.inl hl);clear HPK HPT HQ hl hk;exact k11
   ·rw[hk] at HPK2
    (have hk0:max (c.toNat:Int) 1≠0:=by omega);rw[HP.out.1.stay] at hq hlt
    by_cases hc:c=124\/c=41
    ·have HRR:Hid (RR=(some (joinT 2 l2),left s j2)):=HQ.out.stop (.inr ⟨c,q,hl,hc⟩)
     have hv:max (c.toNat:Int) 1=124\/max (c.toNat:Int) 1=41:=by
      rcases hc with rfl | rfl
      ·exact .inl rfl
      ·exact .inr rfl
     clear HPK HPT HQ hl hk hc hq hlt hk0;rcases hv with hv | hv
     all_goals
      rw[hv] at HPK2;clear hv;exact k11
    ·have h124:max (c.toNat:Int) 1≠124:=fun e=>hc (.inl ((max_one (n:=124) (by decide) (by decide)).1 e))
     (have h41:max (c.toNat:Int) 1≠41:=fun e=>hc (.inr ((max_one (n:=41) (by decide) (by decide)).1 e)));generalize max (c.toNat:Int) 1=C at *;(have b0:(C==0)=false:=by rw[beq_eq_false_iff_ne];exact hk0);(have b1:(C==124)=false:=by rw[beq_eq_false_iff_ne];exact h124);(have b2:(C==41)=false:=by rw[beq_eq_false_iff_ne];exact h41);have HL:Hid (left s j2=c::q/\¬(c=124\/c=41)):=⟨hl,hc⟩;clear hk0 h124 h41 hk hl hc hq hlt HPK HJN;(go_wp2_with fail);refine HPK2.mono ?_;clear HPK2;rintro e5 W5 ⟨rfl,hP5,hO5⟩;have HH5:Hid (HeldQ 2 g s false w W5 i j2 l2 v n2):=HH.out.next HG.out hO5.kept hP5 (zzb _);have HPT2:=HPT.out W5 j2 hP5 HP.out.1.1 HP.out.2.1;clear HH HPT hP5 hO5 g0 g1 g2 g3 g4;(go_wp2_with fail);refine HPT2.mono ?_;clear HPT2 b0 b1 b2;rintro e6 W6 ⟨hK6,j3,t3,m3,⟨k3,nm3,a3,ln3,cp3⟩,f3,hP6,hPl3,hij3,hG3,h993,hX3,rfl,hcase3⟩;unfold rawV at hX3 ⊢;simp only at hX3 ⊢;have hst:Step s (partL (altN n) (left s j2)) f3 t3 j2 j3:=hcase3;have hj3:j3<=200:=Nat.le_trans hPl3.1 HI.out.2;obtain⟨v7,W7,hrun,hH7⟩:=HH5.out.append (i1:=j2) HG.out hK6 hP6 oo hG3 h993 hX3 (hst.wid hij3) hj3;have HH7:Hid (HeldQ 2 g s f3 w W7 i j3 (l2++[t3]) v7 (n2+1)):=hH7;have HQ7:Hid (SQ s (partL (altN n)) RR f3 (l2++[t3]) j3):=HQ.out.next HL.out.1 HL.out.2 hst;exact k16
theorem ralt_calls (g:Nat)(s:ByteArray)(n:Nat)(hs:s.size<=200)(hCH:RCH g s n)(i:Nat)(w:World)(hR:PAt w g s i false)(hi:i<=s.size)(hn:s.size - i<n+1) :
  Calls Tryz.prog 126 #[.pointer (some ⟨g,0,none⟩)] w fun e w' => Kept g w w' /\ RSaid g s w.heap.size i (altL (seqL (partL (altN n))) (left s i)) e w' := by
 have hmx:Tryz.prog.follows .mixedOrders=true:=by kernel_rfl
 have hgl:=hR.lt
 obtain⟨RR,hRR⟩:∃RR,altL (seqL (partL (altN n))) (left s i)=RR:=⟨_,rfl⟩
 rw[hRR]
 have HG:Hid (g<w.heap.size):=hgl
 have HPK:Hid (∀W j,PAt W g s j false->Pl s j->Calls Tryz.prog 125 #[.pointer (some ⟨g,0,none⟩)] W fun r w' => r=.returned (.int .u8 (peekC s j false))/\PAt w' g s j false/\Only g W w'):=fun W j h hj=>by
  have:=peek_calls g s j false W h hj.1 (by have:=hj.1;omega)
  rwa [hj.stay] at this
 have HPT:Hid (∀W j,PAt W g s j false->j<=s.size->i<=j->Calls Tryz.prog 156 #[.pointer (some ⟨g,0,none⟩)] W fun e W' => Kept g W W' /\ RSaid g s W.heap.size j (seqL (partL (altN n)) (left s j)) e W'):=fun W j h hj hij=>rseq_calls g s n hs hCH j W h hj oo
 have HJN:Hid (∀W j l v n f,HeldQ 3 g s f w W i j l v n->Pl s j->i<=j->((f=false/\RR=(some (joinT 3 l),left s j))\/(f=true/\RR=(none,left s j)))->Calls Tryz.prog 157 #[.int .i64 3,v] W fun e w' => ∃r,e=.returned (rawV r)/\w'.heap[w.heap.size]? = some (.cells #[.int .i64 0,.string ⟨#[]⟩,.slice none 0 0] 69 (0,0))/\∀cs,Kept g w (w'.setRow w.heap.size cs)/\RSaid g s w.heap.size i RR (.returned (rawV r)) (w'.setRow w.heap.size cs)):=fun W j l v n f h1 h2 h3 h4=>h1.ends oo hgl hs h2 h3 h4
 have HR:Hid (∀o,PAt (w.alloc o) g s i false):=fun o=>hR.alloc o
 have HI:Hid (i<=s.size/\s.size<=200):=⟨hi,hs⟩
 have HQ0:Hid (∀f t j,Step s (seqL (partL (altN n)) (left s i)) f t i j->SA s (seqL (partL (altN n))) RR f [t] j):=fun f t j h=>hRR▸SA.first h
 clear hR hCH hn hgl hRR hi hs
 go_enter Tryz.func126,Tryz.ntmps126
 go_wp2_with fail
 refine(HPT.out _ i (HR.out _) HI.out.1 (zzb _)).mono ?_
 rintro e1 W1 ⟨hK1,j,t,m,⟨k,nm,a,ln,cp⟩,f,hP1,hPl,hij,hG,h99,hX,rfl,hcase⟩
 unfold rawV at hX ⊢
 simp only at hX ⊢
 have hH:=HeldQ.start 3 HG.out rfl hK1 hP1 hG h99 hX (Step.wid hcase hij)
 have HQ:Hid (SA s (seqL (partL (altN n))) RR f [t] j):=HQ0.out _ _ _ hcase
 clear hK1 hP1 hG h99 hX hcase HR HQ0
 go_wp2
 go_loopg [3] (s.size+1 - j) (fun gk u w' => ∃v j l c f,v=u/\HeldQ 3 g s f w w' i j l v c/\Pl s j/\i<=j/\(f=false->s.size+1 - j<=gk)/\SA s (seqL (partL (altN n))) RR f l j)
 case atStart=>exact⟨_,j,[t],1,f,rfl,hH,hPl,hij,fun _=>zzb _,HQ.out⟩
 case round=>
  clear HQ hH hPl hij;obtain⟨v,j2,l2,n2,f2,hvu,hH,hPl,hij,hgk,hq⟩:=hrel;subst hvu;have HQ:Hid (SA s (seqL (partL (altN n))) RR f2 l2 j2):=hq;have HH:Hid (HeldQ 3 g s f2 w wr i j2 l2 v n2):=hH;obtain⟨g0,g1,g2,g3,g4⟩:=hH.pat.cells;have HP:Hid (Pl s j2/\i<=j2/\(f2=false->s.size+1 - j2<=gk)/\j2<=200):=⟨hPl,hij,hgk,Nat.le_trans hPl.1 HI.out.2⟩;clear hH hq hPl hij hgk;cases f2 with
  | true=>
   exact k12
  | false=>
   have HK:Hid (s.size+1 - j2<=gk):=HP.out.2.2.1 rfl;have HPK2:=HPK.out wr j2 HH.out.pat HP.out.1
   have hcs:(∃q,left s j2=124::q/\peekC s j2 false=124/\left s (j2+1)=q/\j2<s.size)\/((left s j2=[]\/∃c q,left s j2=c::q/\c≠124)/\(peekC s j2 false==124)=false):=by
    have h0:=rk_left HP.out.1.1;rw[HP.out.1.stay] at h0;rcases h0 with ⟨hl,hk⟩ | ⟨c,q,hl,hk,hq,hlt⟩
    ·exact .inr ⟨.inl hl,by rw[hk];rfl⟩
    ·by_cases hc:c=124
     ·subst hc
      exact .inl ⟨q,hl,hk,hq,hlt⟩
     ·refine .inr ⟨.inr ⟨c,q,hl,hc⟩,?_⟩
      rw[hk,beq_eq_false_iff_ne];exact fun e=>hc ((max_one (n:=124) (by decide) (by decide)).1 e)
   rcases hcs with ⟨q,hl,hk,hq,hlt⟩ | ⟨hst0,hb⟩
   ·rw[hk] at HPK2
    have HL:Hid (left s j2=124::left s (j2+1)/\j2<s.size):=⟨by rw[hq];exact hl,hlt⟩;have hj2:j2<=200:=HP.out.2.2.2;clear HPK HJN hl hk hq hlt;(go_wp2_with fail);refine HPK2.mono ?_;clear HPK2;rintro e5 W5 ⟨rfl,hP5,hO5⟩;clear g0 g1 g2 g3 g4;obtain⟨g0,g1,g2,g3,g4⟩:=hP5.cells;obtain⟨W8,hW8⟩:∃W8,W8=W5.setCell ⟨g,1,none⟩ (.int .i64 ((j2:Nat)+1)):=⟨_,rfl⟩;(have hP8:PAt W8 g s (j2+1) false:=by rw[hW8];exact hP5.next (j2+1));have hK8:Kept g W5 W8:=⟨by rw[hW8];rfl,by rw[hW8];rfl,by rw[hW8];rfl,by rw[hW8];simp,fun b _ hb=>by rw[hW8];exact zzh _ _ _ _ hb⟩;have HH5:Hid (HeldQ 3 g s false w W8 i (j2+1) l2 v n2):=HH.out.next HG.out (hO5.kept.trans hK8) hP8 oo;have HPT2:=HPT.out W8 (j2+1) hP8 HL.out.2 (by have:=HP.out.2.1;omega);have HW8:Hid (W8=W5.setCell ⟨g,1,none⟩ (.int .i64 ((j2:Nat)+1))):=hW8;clear HH HPT hP5 hO5 hW8 hP8 hK8;(go_wp2_with fail);rw[<-HW8.out];clear g0 g1 g2 g3 g4 HW8;refine HPT2.mono ?_;clear HPT2;rintro e6 W6 ⟨hK6,j3,t3,m3,⟨k3,nm3,a3,ln3,cp3⟩,f3,hP6,hPl3,hij3,hG3,h993,hX3,rfl,hcase3⟩;unfold rawV at hX3 ⊢;simp only at hX3 ⊢;have hst:Step s (seqL (partL (altN n)) (left s (j2+1))) f3 t3 (j2+1) j3:=hcase3;have hj3:j3<=200:=Nat.le_trans hPl3.1 HI.out.2;obtain⟨v7,W7,hrun,hH7⟩:=HH5.out.append (i1:=(j2+1)) HG.out hK6 hP6 oo hG3 h993 hX3 (hst.wid hij3) hj3;have HH7:Hid (HeldQ 3 g s f3 w W7 i j3 (l2++[t3]) v7 (n2+1)):=hH7;have HQ7:Hid (SA s (seqL (partL (altN n))) RR f3 (l2++[t3]) j3):=HQ.out.next HL.out.1 hst;exact k16
   ·have HRR:Hid (RR=(some (joinT 3 l2),left s j2)):=HQ.out.stop hst0
    generalize peekC s j2 false=C at *;clear HPK HPT HQ hst0;exact k11
theorem RCH.all (g:Nat)(s:ByteArray)(hs:s.size<=200):∀n,RCH g s n:=by
 intro n
 induction n with
 | zero=>intro W i _ _ h;exact absurd h oo
 | succ n ih=>intro W i hR hi hn;exact ralt_calls g s n hs ih i W hR hi hn
end Go.Proofs.YtjkebndkeamijaaGreatDoor
namespace Go.Proofs.YtjkebndkeamijaaGreatDoor
abbrev Place:Type:=Nat×List Nat×Nat
def leastAt (L:List Place)(p:Nat):Nat :=
 match L[p]? with
 | some x=>x.2.2
 | none=>0
def takes (m:Nat)(t:Int):Bool:=decide (0<=t)&&decide (t<16)&&m.testBit t.toNat
theorem takes_zero (t:Int):takes 0 t=false:=by unfold takes;simp
theorem leastAt_some {L:List Place}{p:Nat}{x:Place}(h:L[p]? = some x):leastAt L p=x.2.2:=by unfold leastAt;rw[h]
theorem leastAt_congr {L L' : List Place}{p:Nat}(h:L'[p]? = L[p]?):leastAt L' p=leastAt L p:=by unfold leastAt;rw[h]
def StepAt (L:List Place)(p:Nat)(x:Place):Prop:=x.1≠0/\∃q,x.2.1=[q]/\q<p/\x.2.2=leastAt L q+1
def ForkAt (L:List Place)(p:Nat)(x:Place):Prop:=x.1=0/\(∀q∈x.2.1,q<L.length/\x.2.2<=leastAt L q)/\∃q∈x.2.1,q<p/\x.2.2=leastAt L q
def wf (L:List Place):Prop:=L[0]? = some (0,[],0)/\∀p x,0<p->L[p]? = some x->StepAt L p x\/ForkAt L p x
theorem wf.pos {L:List Place}(h:wf L):0<L.length:=(zzc.1 h.1).1
theorem wf_one:wf [((0,[],0):Place)]:=⟨rfl,fun p x hp hx=>by
 have:=(zzc.1 hx).1
 simp at this
 omega⟩
theorem get_snoc_lt {L:List Place}{y:Place}{p:Nat}(h:p<L.length):(L++[y])[p]? = L[p]? := List.getElem?_append_left h
theorem get_snoc_eq {L:List Place}{y:Place}:(L++[y])[L.length]? = some y:=by simp
theorem wf_add {L:List Place}(h:wf L){y:Place}(hy:(y.1≠0/\∃q,y.2.1=[q]/\q<L.length/\y.2.2=leastAt L q+1)\/(y.1=0/\(∀q∈y.2.1,q<L.length/\y.2.2<=leastAt L q)/\∃q∈y.2.1,y.2.2=leastAt L q)):wf (L++[y]):=by
 have hl:∀q,q<L.length->leastAt (L++[y]) q=leastAt L q:=fun q hq=>leastAt_congr (get_snoc_lt hq)
 refine⟨by rw[get_snoc_lt h.pos];exact h.1,fun p x hp hx=>?_⟩
 rcases Nat.lt_or_ge p L.length with hlt | hge
 ·rw[get_snoc_lt hlt] at hx
  rcases h.2 p x hp hx with ⟨h1,q,h2,h3,h4⟩ | ⟨h1,h2,q,h3,h4,h5⟩
  ·exact .inl ⟨h1,q,h2,h3,by rw[hl q oo];exact h4⟩
  ·refine .inr ⟨h1,fun r hr=>?_,q,h3,h4,by rw[hl q oo];exact h5⟩
   obtain⟨g1,g2⟩:=h2 r hr;exact⟨by simp;omega,by rw[hl r g1];exact g2⟩
 ·have hpl:p=L.length:=by
   have:=(zzc.1 hx).1
   simp at this;omega
  subst hpl;rw[get_snoc_eq] at hx;cases hx;rcases hy with ⟨h1,q,h2,h3,h4⟩ | ⟨h1,h2,q,h3,h4⟩
  ·exact .inl ⟨h1,q,h2,h3,by rw[hl q h3];exact h4⟩
  ·refine .inr ⟨h1,fun r hr=>?_,q,h3,(h2 q h3).1,by rw[hl q (h2 q h3).1];exact h4⟩
   obtain⟨g1,g2⟩:=h2 r hr;exact⟨by simp;omega,by rw[hl r g1];exact g2⟩
def addNext (L:List Place)(i q:Nat):List Place:=L.modify i (fun x=>(x.1,x.2.1++[q],x.2.2))
theorem addNext_length (L:List Place)(i q:Nat):(addNext L i q).length=L.length:=by unfold addNext;simp
theorem addNext_ne {L:List Place}{i q p:Nat}(h:p≠i):(addNext L i q)[p]? = L[p]? := by unfold addNext;rw[List.getElem?_modify];simp[Ne.symm h]
theorem addNext_eq {L:List Place}{i q:Nat}{x:Place}(h:L[i]? = some x):(addNext L i q)[i]? = some (x.1,x.2.1++[q],x.2.2):=by unfold addNext;rw[List.getElem?_modify,h];simp
theorem addNext_least (L:List Place)(i q p:Nat):leastAt (addNext L i q) p=leastAt L p:=by
 by_cases h:p=i
 ·subst h
  cases hx:L[p]? with
  | none=>
   have:(addNext L p q)[p]? = none:=by
    rw[List.getElem?_eq_none_iff] at hx ⊢;rw[addNext_length];exact hx
   unfold leastAt;rw[hx,this]
  | some x=>rw[leastAt_some hx,leastAt_some (addNext_eq hx)]
 ·exact leastAt_congr (addNext_ne h)
theorem wf_next {L:List Place}(h:wf L){i q:Nat}{y:Place}(hi:0<i)(hy:L[i]? = some y)(hz:y.1=0)(hq:q<L.length)(hl:y.2.2<=leastAt L q):wf (addNext L i q):=by
 refine⟨by rw[addNext_ne oo];exact h.1,fun p x hp hx=>?_⟩
 by_cases hpi:p=i
 ·subst hpi
  rw[addNext_eq hy] at hx;cases hx;rcases h.2 p y hp hy with ⟨h1,_⟩ | ⟨h1,h2,r,h3,h4,h5⟩
  ·exact absurd hz h1
  ·refine .inr ⟨h1,fun s hs=>?_,r,List.mem_append_left _ h3,h4,by rw[addNext_least];exact h5⟩
   rw[addNext_length,addNext_least];rcases List.mem_append.1 hs with hs | hs
   ·exact h2 s hs
   ·simp at hs
    subst hs;exact⟨hq,hl⟩
 ·rw[addNext_ne hpi] at hx
  rcases h.2 p x hp hx with ⟨h1,r,h2,h3,h4⟩ | ⟨h1,h2,r,h3,h4,h5⟩
  ·exact .inl ⟨h1,r,h2,h3,by rw[addNext_least];exact h4⟩
  ·refine .inr ⟨h1,fun s hs=>?_,r,h3,h4,by rw[addNext_least];exact h5⟩
   rw[addNext_length,addNext_least];exact h2 s hs
def Reads (F:List Place):Nat->Nat->List Int->Prop
 | 0,p,w=>p=0/\w=[]
 | k+1,p,w=>(p=0/\w=[])\/∃x,F[p]? = some x/\((x.1=0/\∃q∈x.2.1,Reads F k q w)\/(x.1≠0/\∃t v q,w=t::v/\takes x.1 t=true/\x.2.1[0]? = some q/\Reads F k q v))
theorem Reads.up {F:List Place}:∀{k p:Nat} {w:List Int},Reads F k p w->Reads F (k+1) p w:=by
 intro k
 induction k with
 | zero=>intro p w h;exact .inl h
 | succ k ih=>
  intro p w h;rcases h with h | ⟨x,hx,⟨h0,q,hq,hr⟩ | ⟨h0,t,v,q,e,ht,hq,hr⟩⟩
  ·exact .inl h
  ·exact .inr ⟨x,hx,.inl ⟨h0,q,hq,ih hr⟩⟩
  ·exact .inr ⟨x,hx,.inr ⟨h0,t,v,q,e,ht,hq,ih hr⟩⟩
theorem Reads.upto {F:List Place}{k m p:Nat}{w:List Int}(h:k<=m)(hr:Reads F k p w):Reads F m p w:=by
 induction h with
 | refl=>exact hr
 | step _ ih=>exact Reads.up ih
end Go.Proofs.YtjkebndkeamijaaGreatDoor
namespace Go.Proofs.YtjkebndkeamijaaGreatDoor
section
variable {T:Type} (K:T->Int) (M:T->Nat) (U:T->List T)
def forkLeast (L:List Place)(ways:List Nat):Nat:=ways.foldl (fun m q=>min m (leastAt L q)) (leastAt L (ways.headD 0))
def laySeq (f:T->Nat->List Place->List Place×Nat):List T->Nat->List Place->List Place×Nat
 | [],next,L=>(L,next)
 | x::r,next,L=>laySeq f r (f x next L).2 (f x next L).1
def layAlt (f:T->Nat->List Place->List Place×Nat)(next:Nat):List T->List Place->List Nat->List Place×List Nat
 | [],L,ways=>(L,ways)
 | x::r,L,ways=>layAlt f next r (f x next L).1 (ways++[(f x next L).2])
def forkL (L:List Place)(ways:List Nat):List Place×Nat:=(L++[(0,ways,forkLeast L ways)],L.length)
def layOpt (f:T->Nat->List Place->List Place×Nat):List T->Nat->List Place->List Place×Nat
 | x::_,next,L=>forkL (f x next L).1 [next,(f x next L).2]
 | [],next,L=>(L,next)
def layLoop (f:T->Nat->List Place->List Place×Nat):List T->Nat->List Place->List Place×Nat×Nat
 | x::_,next,L=>(addNext (f x L.length (forkL L [next]).1).1 L.length (f x L.length (forkL L [next]).1).2,L.length,(f x L.length (forkL L [next]).1).2)
 | [],next,L=>(L,next,next)
def lay:Nat->T->Nat->List Place->List Place×Nat
 | 0,_,next,L=>(L,next)
 | n+1,t,next,L=>
  if K t=1 then (L++[(M t,[next],leastAt L next+1)],L.length)
  else if K t=2 then laySeq (lay n) (U t).reverse next L
  else if K t=3 then forkL (layAlt (lay n) next (U t) L []).1 (layAlt (lay n) next (U t) L []).2
  else if K t=4 then ((layLoop (lay n) (U t) next L).1,(layLoop (lay n) (U t) next L).2.1)
  else if K t=5 then ((layLoop (lay n) (U t) next L).1,(layLoop (lay n) (U t) next L).2.2)
  else if K t=6 then layOpt (lay n) (U t) next L
  else (L,next)
def Sane:Nat->T->Prop
 | 0,_=>False
 | n+1,t=>(K t=1->M t≠0)/\(K t=2\/K t=3->U t≠[])/\(K t=4\/K t=5\/K t=6->∃x,U t=[x])/\∀x∈U t,Sane n x
def size:Nat->T->Nat
 | 0,_=>0
 | n+1,t=>1+((U t).map (size n)).sum
def need:Nat->T->Nat
 | 0,_=>0
 | n+1,t=>(U t).length * ((U t).map (size U n)).sum+((U t).map (need n)).sum+3
theorem size_need (n:Nat)(t:T):size U n t<=need U n t:=by
 cases n with
 | zero=>exact zzb _
 | succ n=>
  rw[size,need];cases h:U t with
  | nil=>simp
  | cons x r=>
   have:((x::r).map (size U n)).sum<=(x::r).length * ((x::r).map (size U n)).sum:=Nat.le_mul_of_pos_left _ (by simp)
   omega
theorem sum_le_of {α:Type}{f:α->Nat}{c:Nat}{g:α->Nat}:∀(l:List α),(∀x∈l,f x<=c * g x)->(l.map f).sum<=c * (l.map g).sum:=by
 intro l
 induction l with
 | nil=>intro _;simp
 | cons x r ih=>
  intro h;have h1:=h x (zzg ..);have h2:=ih (fun y hy=>h y (zzk _ hy));simp only[List.map_cons,List.sum_cons];rw[Nat.mul_add];omega
theorem sum_ge_mem {α:Type}{f:α->Nat}{x:α}:∀(l:List α),x∈l->f x<=(l.map f).sum:=by
 intro l
 induction l with
 | nil=>intro h;cases h
 | cons y r ih=>
  intro h;simp only[List.map_cons,List.sum_cons];rcases List.mem_cons.1 h with rfl | h
  ·omega
  ·have:=ih h;omega
theorem need_le:∀(n:Nat) (t:T),size U n t<=200->(∀m x,m<n->x∈U t->1<=size U m x\/True)->need U n t<=40003 * size U n t:=by
 intro n
 induction n with
 | zero=>intro t _ _;exact zzn _
 | succ n ih=>
  intro t h _;have h' := h;rw[size] at h
  have hs:((U t).map (need U n)).sum<=40003 * ((U t).map (size U n)).sum:=sum_le_of (U t) fun x hx=>ih x (by
   have:=sum_ge_mem (f:=size U n) (U t) hx
   omega) (fun _ _ _ _=>.inr trivial)
  have hlen:(U t).length<=200\/((U t).map (size U n)).sum=0:=by
   cases n with
   | zero=>
    right
    have:∀l:List T,(l.map (size U 0)).sum=0:=by
     intro l
     induction l with
     | nil=>rfl
     | cons x r ih=>rw[List.map_cons,List.sum_cons,ih];rfl
    exact this _
   | succ m=>
    left
    have:∀l:List T,l.length<=(l.map (size U (m+1))).sum:=by
     intro l
     induction l with
     | nil=>exact zzb _
     | cons x r ih=>
      (have h1:1<=size U (m+1) x:=by rw[size];omega);rw[List.map_cons,List.sum_cons,List.length_cons];omega
    have:=this (U t)
    omega
  rw[need,size]
  have hm:(U t).length * ((U t).map (size U n)).sum<=40000:=by
   rcases hlen with h1 | h1
   ·exact Nat.le_trans (Nat.mul_le_mul h1 (by omega:((U t).map (size U n)).sum<=200)) (by decide)
   ·rw[h1];simp
  omega
def Good (f:T->Nat->List Place->List Place×Nat)(sz:T->Nat)(x:T):Prop :=
 ∀next L,wf L->next<L.length->wf (f x next L).1/\(f x next L).2<(f x next L).1.length/\L.length<=(f x next L).1.length/\(∀p,p<L.length->(f x next L).1[p]? = L[p]?)/\leastAt L next<=leastAt (f x next L).1 (f x next L).2/\(f x next L).1.length<=L.length+sz x
theorem foldl_min_le (L:List Place):∀(ways:List Nat) (m:Nat),ways.foldl (fun m q=>min m (leastAt L q)) m<=m/\(∀q∈ways,ways.foldl (fun m q=>min m (leastAt L q)) m<=leastAt L q)/\(ways.foldl (fun m q=>min m (leastAt L q)) m=m\/∃q∈ways,ways.foldl (fun m q=>min m (leastAt L q)) m=leastAt L q):=by
 intro ways
 induction ways with
 | nil=>intro m;exact⟨zzb _,fun q hq=>(by cases hq),.inl rfl⟩
 | cons a r ih=>
  intro m;obtain⟨h1,h2,h3⟩:=ih (min m (leastAt L a));simp only[List.foldl_cons];refine⟨oo,fun q hq=>?_,?_⟩
  ·rcases List.mem_cons.1 hq with rfl | hq
   ·omega
   ·exact h2 q hq
  ·rcases h3 with h3 | ⟨q,hq,h3⟩
   ·rw[h3]
    by_cases h:m<=leastAt L a
    ·exact .inl oo
    ·exact .inr ⟨a,zzg ..,oo⟩
   ·exact .inr ⟨q,zzk _ hq,h3⟩
theorem forkLeast_ok (L:List Place){ways:List Nat}(h:ways≠[]):(∀q∈ways,forkLeast L ways<=leastAt L q)/\∃q∈ways,forkLeast L ways=leastAt L q:=by
 obtain⟨h1,h2,h3⟩:=foldl_min_le L ways (leastAt L (ways.headD 0))
 refine⟨h2,?_⟩
 rcases h3 with h3 | h3
 ·cases ways with
  | nil=>exact absurd rfl h
  | cons a r=>exact⟨a,zzg ..,h3⟩
 ·exact h3
theorem forkL_ok {L:List Place}(hL:wf L){ways:List Nat}(h:ways≠[])(hw:∀q∈ways,q<L.length){m:Nat}(hm:∀q∈ways,m<=leastAt L q) :
  wf (forkL L ways).1/\(forkL L ways).2<(forkL L ways).1.length/\(forkL L ways).1.length=L.length+1/\(∀p,p<L.length->(forkL L ways).1[p]? = L[p]?)/\m<=leastAt (forkL L ways).1 (forkL L ways).2:=by
 obtain⟨h1,h2⟩:=forkLeast_ok L h
 unfold forkL
 refine⟨wf_add hL (.inr ⟨rfl,fun q hq=>⟨hw q hq,h1 q hq⟩,h2⟩),by simp,by simp,fun p hp=>get_snoc_lt hp,?_⟩
 rw[leastAt_some get_snoc_eq]
 obtain⟨q,hq,e⟩:=h2
 show m<=forkLeast L ways
 rw[e]
 exact hm q hq
theorem laySeq_good {f:T->Nat->List Place->List Place×Nat}{sz:T->Nat}:∀(l:List T),(∀x∈l,Good f sz x)->∀next L,wf L->next<L.length →
  wf (laySeq f l next L).1/\(laySeq f l next L).2<(laySeq f l next L).1.length/\L.length<=(laySeq f l next L).1.length/\(∀p,p<L.length->(laySeq f l next L).1[p]? = L[p]?)/\leastAt L next<=leastAt (laySeq f l next L).1 (laySeq f l next L).2/\(laySeq f l next L).1.length<=L.length+(l.map sz).sum:=by
 intro l
 induction l with
 | nil=>intro _ next L hL hn;exact⟨hL,hn,zzb _,fun _ _=>rfl,zzb _,Nat.le_add_right _ _⟩
 | cons x r ih=>
  intro hg next L hL hn;obtain⟨a1,a2,a3,a4,a5,a6⟩:=hg x (zzg ..) next L hL hn;obtain⟨b1,b2,b3,b4,b5,b6⟩:=ih (fun y hy=>hg y (zzk _ hy)) (f x next L).2 (f x next L).1 a1 a2;rw[laySeq];refine⟨b1,b2,Nat.le_trans a3 b3,fun p hp=>(b4 p oo).trans (a4 p hp),Nat.le_trans a5 b5,?_⟩;simp only[List.map_cons,List.sum_cons];omega
theorem layAlt_good {f:T->Nat->List Place->List Place×Nat}{sz:T->Nat}(next:Nat):∀(l:List T),(∀x∈l,Good f sz x)->∀(L:List Place) (ways:List Nat),wf L->next<L.length->(∀q∈ways,q<L.length/\leastAt L next<=leastAt L q) →
  wf (layAlt f next l L ways).1/\(∀q∈(layAlt f next l L ways).2,q<(layAlt f next l L ways).1.length/\leastAt L next<=leastAt (layAlt f next l L ways).1 q)/\L.length<=(layAlt f next l L ways).1.length/\(∀p,p<L.length->(layAlt f next l L ways).1[p]? = L[p]?)/\(layAlt f next l L ways).1.length<=L.length+(l.map sz).sum/\(layAlt f next l L ways).2.length=ways.length+l.length:=by
 intro l
 induction l with
 | nil=>intro _ L ways hL hn hw;exact⟨hL,hw,zzb _,fun _ _=>rfl,Nat.le_add_right _ _,rfl⟩
 | cons x r ih=>
  intro hg L ways hL hn hw;obtain⟨a1,a2,a3,a4,a5,a6⟩:=hg x (zzg ..) next L hL hn;have hkeep:∀q,q<L.length->leastAt (f x next L).1 q=leastAt L q:=fun q hq=>leastAt_congr (a4 q hq)
  obtain⟨b1,b2,b3,b4,b5,b6⟩:=ih (fun y hy=>hg y (zzk _ hy)) (f x next L).1 (ways++[(f x next L).2]) a1 oo (fun q hq=>by
   rw[hkeep next hn];rcases List.mem_append.1 hq with hq | hq
   ·obtain⟨g1,g2⟩:=hw q hq
    exact⟨oo,by rw[hkeep q g1];exact g2⟩
   ·simp at hq
    subst hq
    exact⟨a2,a5⟩)
  rw[hkeep next hn] at b2;rw[layAlt];refine⟨b1,b2,Nat.le_trans a3 b3,fun p hp=>(b4 p oo).trans (a4 p hp),?_,?_⟩
  ·simp only[List.map_cons,List.sum_cons]
   omega
  ·rw[b6]
   simp
   omega
theorem layLoop_good {f:T->Nat->List Place->List Place×Nat}{sz:T->Nat}{x:T}(hg:Good f sz x){next:Nat}{L:List Place}(hL:wf L)(hn:next<L.length) :
  wf (layLoop f [x] next L).1/\(layLoop f [x] next L).2.1=L.length/\L.length<(layLoop f [x] next L).1.length/\(layLoop f [x] next L).2.2<(layLoop f [x] next L).1.length/\(∀p,p<L.length->(layLoop f [x] next L).1[p]? = L[p]?) ∧
  leastAt L next<=leastAt (layLoop f [x] next L).1 L.length/\leastAt L next<=leastAt (layLoop f [x] next L).1 (layLoop f [x] next L).2.2/\(layLoop f [x] next L).1.length<=L.length+(1+sz x):=by
 obtain⟨c1,c2,c3,c4,c5⟩:=forkL_ok hL (ways:=[next]) (by simp) (by simpa using hn) (m:=leastAt L next) (by simp)
 have e2:(forkL L [next]).2=L.length:=rfl
 rw[e2] at c5
 obtain⟨a1,a2,a3,a4,a5,a6⟩:=hg L.length (forkL L [next]).1 c1 oo
 rw[layLoop]
 generalize hf:f x L.length (forkL L [next]).1=r at *
 have hat:(forkL L [next]).1[L.length]? = some (0,[next],forkLeast L [next]):=get_snoc_eq
 have hr:r.1[L.length]? = some (0,[next],forkLeast L [next]):=(a4 _ oo).trans hat
 have hpos:=hL.pos
 refine⟨wf_next a1 hpos hr rfl a2 ?_,rfl,by rw[addNext_length];omega,by rw[addNext_length];exact a2,fun p hp=>?_,?_,?_,?_⟩
 ·rw[<-leastAt_some hat];exact a5
 ·rw[addNext_ne oo,a4 p oo,c4 p hp]
 ·rw[addNext_least,leastAt_congr (a4 L.length oo)];exact c5
 ·rw[addNext_least];exact Nat.le_trans c5 (by rw[<-leastAt_congr (a4 L.length oo)];exact Nat.le_trans (by rw[leastAt_congr (a4 L.length oo)];exact zzb _) a5)
 ·rw[addNext_length];omega
theorem lay_good:∀(n:Nat) (t:T),Sane K M U n t->Good (lay K M U n) (size U n) t:=by
 intro n
 induction n with
 | zero=>intro t h;exact h.elim
 | succ n ih=>
  intro t ⟨s1,s3,s4,sk⟩ next L hL hn;(have hk:∀x∈U t,Good (lay K M U n) (size U n) x:=fun x hx=>ih x (sk x hx));rw[lay,size]
  by_cases k1:K t=1
  ·rw[if_pos k1]
   refine⟨wf_add hL (.inl ⟨s1 k1,next,rfl,hn,rfl⟩),by simp,by simp,fun p hp=>get_snoc_lt hp,?_,by simp⟩;rw[leastAt_some get_snoc_eq];exact Nat.le_succ _
  rw[if_neg k1]
  by_cases k2:K t=2
  ·rw[if_pos k2]
   obtain⟨b1,b2,b3,b4,b5,b6⟩:=laySeq_good (U t).reverse (fun x hx=>hk x (List.mem_reverse.1 hx)) next L hL hn;refine⟨b1,b2,b3,b4,b5,?_⟩;rw[List.map_reverse,List.sum_reverse] at b6;omega
  rw[if_neg k2]
  by_cases k3:K t=3
  ·rw[if_pos k3]
   obtain⟨b1,b2,b3,b4,b5,b6⟩:=layAlt_good next (U t) hk L [] hL hn (fun q hq=>by cases hq)
   have hne:(layAlt (lay K M U n) next (U t) L []).2≠[]:=by
    intro e;rw[e] at b6
    have:=List.length_pos_iff.2 (s3 (.inr k3))
    simp at b6;simp[b6] at this
   obtain⟨c1,c2,c3,c4,c5⟩:=forkL_ok b1 hne (fun q hq=>(b2 q hq).1) (fun q hq=>(b2 q hq).2);refine⟨c1,c2,oo,fun p hp=>(c4 p oo).trans (b4 p hp),c5,?_⟩;omega
  rw[if_neg k3]
  by_cases k4:K t=4
  ·rw[if_pos k4]
   obtain⟨x,hx⟩:=s4 (.inl k4);rw[hx];obtain⟨a1,a2,a3,a4,a5,a6,a7,a8⟩:=layLoop_good (hk x (by rw[hx];exact List.mem_singleton.2 rfl)) hL hn;refine⟨a1,by rw[a2];exact a3,Nat.le_of_lt a3,a5,by rw[a2];exact a6,?_⟩;simpa using a8
  rw[if_neg k4]
  by_cases k5:K t=5
  ·rw[if_pos k5]
   obtain⟨x,hx⟩:=s4 (.inr (.inl k5));rw[hx];obtain⟨a1,a2,a3,a4,a5,a6,a7,a8⟩:=layLoop_good (hk x (by rw[hx];exact List.mem_singleton.2 rfl)) hL hn;refine⟨a1,a4,Nat.le_of_lt a3,a5,a7,?_⟩;simpa using a8
  rw[if_neg k5]
  by_cases k6:K t=6
  ·rw[if_pos k6]
   obtain⟨x,hx⟩:=s4 (.inr (.inr k6));rw[hx,layOpt];obtain⟨a1,a2,a3,a4,a5,a6⟩:=hk x (by rw[hx];exact List.mem_singleton.2 rfl) next L hL hn;have hkeep:leastAt (lay K M U n x next L).1 next=leastAt L next:=leastAt_congr (a4 next hn)
   obtain⟨c1,c2,c3,c4,c5⟩:=forkL_ok a1 (ways:=[next,(lay K M U n x next L).2]) (by simp) (fun q hq=>by
    simp at hq;rcases hq with rfl | rfl
    ·omega
    ·exact a2) (m:=leastAt L next) (fun q hq=>by
    simp at hq;rcases hq with rfl | rfl
    ·rw[hkeep];exact zzb _
    ·exact a5)
   refine⟨c1,c2,oo,fun p hp=>(c4 p oo).trans (a4 p hp),c5,?_⟩
   simp
   omega
  rw[if_neg k6];exact⟨hL,hn,zzb _,fun _ _=>rfl,zzb _,Nat.le_add_right _ _⟩
end
end Go.Proofs.YtjkebndkeamijaaGreatDoor
