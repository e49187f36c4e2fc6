/-
  PROVED HERE: expr's own right and Check at every tree: what they return; nothing that lay before is turned.
-/
import Derived.Test.YtjkebndkeamijaaGreatDoorCA3
set_option maxRecDepth 100000
set_option maxHeartbeats 4000000
namespace Go.Proofs.YtjkebndkeamijaaGreatDoor
open Go.RowKit
def gKo (k:Int):Bool:=k==2||k==3
theorem gPb (k:Int)(w:World):Calls Tryz.prog 188 #[.int .i64 k] w fun e w' => e=.returned (.bool (gKo k))/\w' = w:=by
 unfold gKo
 cases h:(k==2) with
 | true=>
  go_enter Tryz.func188,Tryz.ntmps188;go_wp2;go_ret;exact⟨rfl,rfl⟩
 | false=>
  go_enter Tryz.func188,Tryz.ntmps188;go_wp2;go_ret;exact⟨rfl,rfl⟩
def wQ (i k:Int):Bool := !(i==0)&&(!(i==k) || !gKo k)
theorem gXe (i k:Int)(w:World):Calls Tryz.prog 179 #[.int .i64 i,.int .i64 k] w fun e w' => e=.returned (.bool (wQ i k))/\w' = w:=by
 have HR:Hid (∀W,Calls Tryz.prog 188 #[.int .i64 k] W fun e w' => e=.returned (.bool (gKo k))/\w' = W):=fun W=>gPb k W
 unfold wQ
 generalize gKo k=r at *
 cases h:(i==0) with
 | true=>
  (have h1:(i != 0)=false:=by simp[bne,h]);go_enter Tryz.func179,Tryz.ntmps179;go_wp2;go_ret;exact⟨rfl,rfl⟩
 | false=>
  have h1:(i != 0)=true:=by simp[bne,h]
  cases h2:(i==k) with
  | true=>
   (have h3:(i != k)=false:=by simp[bne,h2]);go_enter Tryz.func179,Tryz.ntmps179;(go_wp2_with fail);refine(HR.out _).mono ?_;rintro e W ⟨rfl,hW⟩;rw[hW];go_wp2;go_ret;exact⟨by cases r<;>rfl,rfl⟩
  | false=>
   (have h3:(i != k)=true:=by simp[bne,h2]);go_enter Tryz.func179,Tryz.ntmps179;go_wp2;go_ret;exact⟨by cases r<;>rfl,rfl⟩
def uB (n:Nat)(k:Int)(ts:List (DataW Unit)):Bool:=ts.all (fun x=>wQ (iE x) k&&jN n x)
def gRs (n:Nat)(k:Int)(s:ByteArray)(ts:List (DataW Unit)):Bool :=
 if k=0 then s.toList.isEmpty&&ts.length==0
 else if k=1 then jJ s&&ts.length==0
 else if k=2\/k=3 then (s.toList.isEmpty&&decide (2<=ts.length))&&uB n k ts
 else if k=4\/k=5\/k=6 then (s.toList.isEmpty&&ts.length==1)&&uB n k ts
 else false
theorem hFl {p q:DataW Unit->Bool}:∀l:List (DataW Unit),l.all (fun x=>p x&&q x)=(l.all p&&l.all q):=by
 intro l
 induction l with
 | nil=>rfl
 | cons x r ih=>
  simp only[List.all_cons,ih];cases p x<;>cases q x<;>cases r.all p<;>cases r.all q<;>rfl
theorem k142{p:Prop}(h:p:=by
  simp only[if_true];cases h:ts.length==0 with
  | false=>simp
  | true=>rw[h0 (by simpa using h)];simp
  ):p:=h
theorem k125{p:Prop}(h:p:=by
  unfold uB wQ
  congr 1
  funext x
  rw[hr];cases (iE x==0)<;>cases (iE x==k)<;>cases jN n x<;>rfl
  ):p:=h
theorem gRr (n:Nat)(k:Int)(s:ByteArray)(ts:List (DataW Unit)):jN (n+1) (node k s ts)=gRs n k s ts:=by
 rw[jN,iC,iN,kT]
 unfold nN gRs
 have h0:ts.length=0->ts=[]:=List.length_eq_zero_iff.1
 by_cases k0:k=0
 ·subst k0
  exact k142
 rw[if_neg k0,if_neg k0]
 by_cases k1:k=1
 ·subst k1
  exact k142
 rw[if_neg k1,if_neg k1]
 by_cases k2:k=2\/k=3
 ·rw[if_neg oo,if_pos k2,if_pos k2]
  have hr:gKo k=true:=by unfold gKo;rcases k2 with rfl | rfl<;>rfl
  have hi:uB n k ts=(ts.all (fun x => !(iE x==0)&&jN n x)&&ts.all (fun x => !(iE x==k))):=by
   rw[<-hFl];exact k125
  rw[hi];cases ts.all (fun x => !(iE x==0)&&jN n x)<;>cases ts.all (fun x => !(iE x==k))<;>cases s.toList.isEmpty<;>cases decide (2<=ts.length)<;>rfl
 rw[if_neg k2,if_neg k2]
 by_cases k4:k=4\/k=5\/k=6
 ·rw[if_pos k4,if_pos k4]
  have hr:gKo k=false:=by unfold gKo;rcases k4 with rfl | rfl | rfl<;>rfl
  have hi:uB n k ts=ts.all (fun x => !(iE x==0)&&jN n x):=by
   exact k125
  rw[hi,Bool.and_comm]
 ·rw[if_neg k4,if_neg k4,Bool.and_false]
theorem k114{p:Prop}(h:p:=by
  go_wp2
  go_roundw
  case rel=>exact⟨i+1,oo,rfl,HI.out,hB.trans (hB2.mono hB.size)⟩
  case measure=>simp[intOf];omega
  ):p:=h
theorem gPd (n:Nat)(ih:∀(t:DataW Unit) (v:Value) (w:World),Ex w n t v->oG n t->Calls Tryz.prog 162 #[v] w fun e w' => e=.returned (.bool (jN n t))/\Below w.heap.size w w')
  (k:Int) (s:ByteArray) (ts:List (DataW Unit)) (v:Value) (w:World) (h:Ex w (n+1) (node k s ts) v) (hN:oG (n+1) (node k s ts)) :
  Calls Tryz.prog 170 #[v] w fun e w' => e=.returned (.bool (uB n k ts))/\Below w.heap.size w w' := by
 obtain⟨k', s', a,len,cap,ts', hn,rfl,hl,hz,hk⟩:=h
 obtain⟨rfl,rfl,rfl⟩:=gAy.1 hn
 have hNk:=hN.2
 rw[iC] at hNk
 obtain⟨R,hR⟩:∃R,uB n k ts=R:=⟨_,rfl⟩
 rw[hR]
 have HR:Hid (uB n k ts=R):=hR
 clear hR hn hN
 go_enter Tryz.func170,Tryz.ntmps170
 go_wp2
 go_loopw [8] (fun i w' => ∃j:Nat,j<=len/\i=.int .i64 (j:Int)/\uB n k (ts.take j)=true/\Below (w.alloc (.cells #[.int .i64 k,.string s,.slice a len cap] 69)).heap.size (w.alloc (.cells #[.int .i64 k,.string s,.slice a len cap] 69)) w') (fun i _=>len - (intOf i).toNat)
 case atStart=>exact⟨0,oo,rfl,rfl,zzd _ _⟩
 case round=>
  obtain⟨i,hi,rfl,hT,hB⟩:=hrel;obtain⟨b1,-,b0,hBw⟩:=lT hB
  have b2:∀o,(wr.alloc o).cell? ⟨w.heap.size,0,none⟩=some (.int .i64 k):=fun o=>by
   rw[World.cell?_alloc_lt _ _ ⟨w.heap.size,0,none⟩ (by have:=hB.size;simp only[World.size_alloc] at this;show w.heap.size<wr.heap.size;omega)];exact b1
  by_cases hlt:i<len
  ·obtain⟨b,o,x,kx,sx,ax,lx,cx,rfl,_,hx,hcx⟩:=pM hl hk hlt
   obtain⟨p0,p1,p2,p3⟩:=hcx wr hBw;have hkx:iE x=kx:=gEv p3
   have hst:uB n k (ts.take (i+1))=(wQ kx k&&jN n x):=by
    have:=gBs (p:=fun x=>wQ (iE x) k&&jN n x) hx
    unfold uB at hT ⊢;rw[this,hT,Bool.true_and,hkx]
   have hno:(wQ kx k&&jN n x)=false->R=false:=fun h=>by
    rw[<-HR.out];exact gBt hx (by rw[hkx];exact h)
   (have HM:Hid (∀W,Calls Tryz.prog 179 #[.int .i64 kx,.int .i64 k] W fun e w' => e=.returned (.bool (wQ kx k))/\w' = W):=fun W=>gXe kx k W);(have HC:Hid (∀W,Below wr.heap.size wr W->Calls Tryz.prog 162 #[.agg #[.int .i64 kx,.string sx,.slice ax lx cx]] W fun e w' => e=.returned (.bool (jN n x))/\Below W.heap.size W w'):=fun W hW=>ih x _ W (Ex.below hW _ _ _ p3) (hNk x (zzj hx)));have HI:Hid (uB n k (ts.take (i+1))=(wQ kx k&&jN n x)):=hst;have HO:Hid ((wQ kx k&&jN n x)=false->R=false):=hno;(have HW:Hid (∀o,Below wr.heap.size wr (wr.alloc o)):=fun o=>(zzd _ wr).alloc (zzb _) _);clear hcx hk p3 hst hno hx ih hkx hT hNk;generalize wQ kx k=mk at *;generalize jN n x=rx at *;cases mk with
   | false=>
    (go_wp2_with fail);refine(HM.out _).mono ?_;rintro e W ⟨rfl,hW⟩;rw[hW];go_wp2;go_ret;exact⟨by rw[HO.out rfl];rfl,hBw.trans ((HW.out _).mono hBw.size)⟩
   | true=>
    (go_wp2_with fail);refine(HM.out _).mono ?_;rintro e W ⟨rfl,hW⟩;rw[hW];(go_wp2_with fail);refine(HC.out _ (HW.out _)).mono ?_;rintro e W2 ⟨rfl,hW2⟩;have hB2:Below wr.heap.size wr W2:=(HW.out _).trans (hW2.mono (by simp));cases rx with
    | false=>
     go_wp2;go_ret;exact⟨by rw[HO.out rfl];rfl,hBw.trans (hB2.mono hBw.size)⟩
    | true=>
     exact k114
  ·obtain rfl:i=len:=by omega
   have HF:Hid (R=true):=by
    show R=true
    rw[<-HR.out,<-hT,zzm (Nat.le_of_eq hl)]
   clear hk ih hNk hT;go_wp2;go_ret;exact⟨by rw[HF.out];rfl,hBw⟩
theorem k152{p:Prop}(h:p:=by
  go_enter Tryz.func162,Tryz.ntmps162;go_wp2;go_ret;exact⟨rfl,HB0.out _⟩
  ):p:=h
theorem k101{p:Prop}(h:p:=by
  rcases k2 with rfl | rfl
  all_goals
   go_enter Tryz.func162,Tryz.ntmps162;go_wp2;go_ret;exact⟨rfl,HB0.out _⟩
  ):p:=h
theorem k95{p:Prop}(h:p:=by
  rcases k4 with rfl | rfl | rfl
  all_goals
   go_enter Tryz.func162,Tryz.ntmps162;go_wp2;go_ret;exact⟨rfl,HB0.out _⟩
  ):p:=h
theorem k85{p:Prop}(h:p:=by
  go_enter Tryz.func162,Tryz.ntmps162;(go_wp2_with fail);refine(HL.out _).mono ?_;rintro e W ⟨rfl,hW⟩;rw[hW];go_wp2;go_ret;exact⟨rfl,HB0.out _⟩
  ):p:=h
theorem k81{p:Prop}(h:p:=by
  go_enter Tryz.func162,Tryz.ntmps162;(go_wp2_with fail);refine(HI.out _ (HB0.out _)).mono ?_;rintro e W ⟨rfl,hW⟩;go_wp2;go_ret;exact⟨rfl,HW.out _ _ hW⟩
  ):p:=h
theorem gKq:∀(n:Nat) (t:DataW Unit) (v:Value) (w:World),Ex w n t v->oG n t →
  Calls Tryz.prog 162 #[v] w fun e w' => e=.returned (.bool (jN n t))/\Below w.heap.size w w' := by
 intro n
 induction n with
 | zero=>intro t v w h;exact h.elim
 | succ n ih=>
  intro t v w h hN;have hh:=h;obtain⟨k,s,a,len,cap,ts,rfl,rfl,hl,hz,hk⟩:=h;(have HI:Hid (∀W,Below w.heap.size w W->Calls Tryz.prog 170 #[.agg #[.int .i64 k,.string s,.slice a len cap]] W fun e w' => e=.returned (.bool (uB n k ts))/\Below W.heap.size W w'):=fun W hW=>gPd n ih k s ts _ W (Ex.below hW _ _ _ hh) hN);(have hNs:s.size<=9223372036854775807:=by have:=hN.1;rwa [kT] at this);(have HL:Hid (∀W,Calls Tryz.prog 169 #[.string s] W fun e w' => e=.returned (.bool (jJ s))/\w' = W):=fun W=>gLm s W hNs);rw[gRr];unfold gRs;rw[hl];(have HB0:Hid (∀o,Below w.heap.size w (w.alloc o)):=fun o=>(zzd _ w).alloc (zzb _) _);clear hk ih hN hh hz hl hNs;have hq0:=gBi len 0;have hq1:=gBi len 1;have hq2:=gTd len;rw[hq0,hq1,hq2];clear hq0 hq1 hq2
  by_cases k0:k=0
  ·subst k0
   simp only[if_true];cases he:s.toList.isEmpty with
   | true=>
    exact k152
   | false=>
    exact k152
  rw[if_neg k0];have e0:(k==0)=false:=by simpa using k0
  by_cases k1:k=1
  ·subst k1
   simp only[if_true];generalize jJ s=b at *;cases b with
   | true=>
    exact k85
   | false=>
    exact k85
  rw[if_neg k1];(have e1:(k==1)=false:=by simpa using k1);generalize uB n k ts=q at *;have HW:Hid (∀o W,Below (w.alloc o).heap.size (w.alloc o) W->Below w.heap.size w W):=fun o W h=>(HB0.out o).trans (h.mono (by simp))
  by_cases k2:k=2\/k=3
  ·rw[if_pos k2]
   clear k0 k1;cases he:s.toList.isEmpty with
   | true=>
    cases hc:decide ((2:Int)<=(len:Int)) with
    | true=>
     have hc' : (2:Int)<=(len:Int):=of_decide_eq_true hc;rcases k2 with rfl | rfl
     all_goals
      exact k81
    | false=>
     have hc' : ¬(2:Int)<=(len:Int):=of_decide_eq_false hc;exact k101
   | false=>
    exact k101
  rw[if_neg k2];(have e2:(k==2)=false:=by rw[beq_eq_false_iff_ne];omega);have e3:(k==3)=false:=by rw[beq_eq_false_iff_ne];omega
  by_cases k4:k=4\/k=5\/k=6
  ·rw[if_pos k4]
   clear k0 k1 k2;cases he:s.toList.isEmpty with
   | true=>
    cases hc:((len:Int)==((1:Nat):Int)) with
    | true=>
     have hc' : ((len:Int)==(1:Int))=true:=hc;rcases k4 with rfl | rfl | rfl
     all_goals
      exact k81
    | false=>
     have hc' : ((len:Int)==(1:Int))=false:=hc;exact k95
   | false=>
    exact k95
  rw[if_neg k4];(have e4:(k==4)=false:=by rw[beq_eq_false_iff_ne];omega);(have e5:(k==5)=false:=by rw[beq_eq_false_iff_ne];omega);(have e6:(k==6)=false:=by rw[beq_eq_false_iff_ne];omega);clear k0 k1 k2 k4;exact k152
theorem hDa (n:Nat)(t:DataW Unit):kU n t=if rb n t 1 200<0 then 2 else if jN n t=true then 0 else 4:=by
 unfold kU
 by_cases h:200<cnt n t\/60<dp n t
 ·have e:rb n t 1 200 = -1:=by unfold rb;exact if_neg oo
  rw[if_pos h,e,if_pos (by decide)]
 ·have e:rb n t 1 200=200 - cnt n t:=by unfold rb;exact if_pos oo
  have e2:¬(200 - cnt n t<0):=by omega
  rw[if_neg h,e,if_neg e2]
theorem k130{p:Prop}(h:p:=by
  cases n with
  | zero=>exact h.elim
  | succ n=>obtain⟨k,s,a,len,cap,ts,_,rfl,_⟩:=h;exact⟨k,s,a,len,cap,rfl⟩
  ):p:=h
theorem k55{p:Prop}(h:p:=by
  go_enter Tryz.func143,Tryz.ntmps143;(go_wp2_with fail);refine(H1.out _ (HB0.out _)).mono ?_;rintro e W ⟨rfl,hW⟩;obtain⟨c0,c1,c2,hBw⟩:=HF0.out W hW;(go_wp2_with fail);refine(H3.out _ hBw).mono ?_;rintro e W2 ⟨rfl,hW2⟩;go_wp2;go_ret;exact⟨rfl,hBw.trans (hW2.mono hBw.size)⟩
  ):p:=h
theorem gDy (n:Nat)(t:DataW Unit)(v:Value)(w:World)(h:Ex w n t v)(hN:oG n t) :
  Calls Tryz.prog 143 #[v] w fun e w' => e=.returned (.int .i64 (kU n t))/\Below w.heap.size w w' := by
 have H1:Hid (∀W,Below w.heap.size w W->Calls Tryz.prog 161 #[v,.int .i64 1,.int .i64 200] W fun e w' => e=.returned (.int .i64 (rb n t 1 200))/\Below W.heap.size W w'):=fun W hW=>gRm n t v W 1 200 (Ex.below hW _ _ _ h) (by decide) (by decide) (by decide) (by decide)
 have H3:Hid (∀W,Below w.heap.size w W->Calls Tryz.prog 162 #[v] W fun e w' => e=.returned (.bool (jN n t))/\Below W.heap.size W w'):=fun W hW=>gKq n t v W (Ex.below hW _ _ _ h) hN
 rw[hDa]
 have hr:=gNv n t 1 200
 generalize rb n t 1 200=r at *
 generalize jN n t=b at *
 have HB0:Hid (∀o,Below w.heap.size w (w.alloc o)):=fun o=>(zzd _ w).alloc (zzb _) _
 obtain⟨k,s,a,len,cap,rfl⟩:∃k s a len cap,v=.agg #[.int .i64 k,.string s,.slice a len cap]:=by
  exact k130
 have f0:∀W:World,Below (w.alloc (.cells #[.int .i64 k,.string s,.slice a len cap] 69)).heap.size (w.alloc (.cells #[.int .i64 k,.string s,.slice a len cap] 69)) W->W.cell? ⟨w.heap.size,0,none⟩=some (.int .i64 k)/\W.cell? ⟨w.heap.size,1,none⟩=some (.string s)/\W.cell? ⟨w.heap.size,2,none⟩=some (.slice a len cap)/\Below w.heap.size w W:=fun W hW=>lT hW
 have HF0:Hid (∀W:World,Below (w.alloc (.cells #[.int .i64 k,.string s,.slice a len cap] 69)).heap.size (w.alloc (.cells #[.int .i64 k,.string s,.slice a len cap] 69)) W->W.cell? ⟨w.heap.size,0,none⟩=some (.int .i64 k)/\W.cell? ⟨w.heap.size,1,none⟩=some (.string s)/\W.cell? ⟨w.heap.size,2,none⟩=some (.slice a len cap)/\Below w.heap.size w W):=f0
 clear f0 h hN
 by_cases hneg:r<0
 ·rw[if_pos hneg]
  go_enter Tryz.func143,Tryz.ntmps143;(go_wp2_with fail);refine(H1.out _ (HB0.out _)).mono ?_;rintro e W ⟨rfl,hW⟩;obtain⟨-,-,-,hBw⟩:=HF0.out W hW;go_wp2;go_ret;exact⟨rfl,hBw⟩
 ·rw[if_neg hneg]
  cases b with
  | true=>
   exact k55
  | false=>
   exact k55
end Go.Proofs.YtjkebndkeamijaaGreatDoor
