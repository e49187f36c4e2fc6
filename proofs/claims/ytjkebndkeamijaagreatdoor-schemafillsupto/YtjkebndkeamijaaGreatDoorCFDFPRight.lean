/-
  PROVED HERE: expr's own right and Check at every tree: what they return; nothing that lay before is turned.
-/
import Derived.Test.YtjkebndkeamijaaGreatDoorCF3
set_option maxRecDepth 100000
set_option maxHeartbeats 4000000
namespace Go.Proofs.YtjkebndkeamijaaGreatDoor
open Go.RowKit
def rowK (k:Int):Bool:=k==2||k==3
theorem isrow_calls (k:Int)(w:World):Calls Tryz.prog 188 #[.int .i64 k] w fun e w' => e=.returned (.bool (rowK k))/\w' = w:=by
 unfold rowK
 cases h:(k==2) with
 | true=>
  go_enter Tryz.func188,Tryz.ntmps188;go_wp2;go_ret;exact⟨rfl,rfl⟩
 | false=>
  go_enter Tryz.func188,Tryz.ntmps188;go_wp2;go_ret;exact⟨rfl,rfl⟩
def mayIn (i k:Int):Bool := !(i==0)&&(!(i==k) || !rowK k)
theorem may_calls (i k:Int)(w:World):Calls Tryz.prog 179 #[.int .i64 i,.int .i64 k] w fun e w' => e=.returned (.bool (mayIn i k))/\w' = w:=by
 have HR:Hid (∀W,Calls Tryz.prog 188 #[.int .i64 k] W fun e w' => e=.returned (.bool (rowK k))/\w' = W):=fun W=>isrow_calls k W
 unfold mayIn
 generalize rowK k=r at *
 cases h:(i==0) with
 | true=>
  (have h1:(i != 0)=false:=by simp[bne,h]);go_enter Tryz.func179,Tryz.ntmps179;go_wp2;go_ret;exact⟨rfl,rfl⟩
 | false=>
  have h1:(i != 0)=true:=by simp[bne,h]
  cases h2:(i==k) with
  | true=>
   (have h3:(i != k)=false:=by simp[bne,h2]);go_enter Tryz.func179,Tryz.ntmps179;(go_wp2_with fail);refine(HR.out _).mono ?_;rintro e W ⟨rfl,hW⟩;rw[hW];go_wp2;go_ret;exact⟨by cases r<;>rfl,rfl⟩
  | false=>
   (have h3:(i != k)=true:=by simp[bne,h2]);go_enter Tryz.func179,Tryz.ntmps179;go_wp2;go_ret;exact⟨by cases r<;>rfl,rfl⟩
def inAll (n:Nat)(k:Int)(ts:List (DataW Unit)):Bool:=ts.all (fun x=>mayIn (kindT x) k&&rightE n x)
def rightP (n:Nat)(k:Int)(s:ByteArray)(ts:List (DataW Unit)):Bool :=
 if k=0 then s.toList.isEmpty&&ts.length==0
 else if k=1 then letters s&&ts.length==0
 else if k=2\/k=3 then (s.toList.isEmpty&&decide (2<=ts.length))&&inAll n k ts
 else if k=4\/k=5\/k=6 then (s.toList.isEmpty&&ts.length==1)&&inAll n k ts
 else false
theorem all_and {p q:DataW Unit->Bool}:∀l:List (DataW Unit),l.all (fun x=>p x&&q x)=(l.all p&&l.all q):=by
 intro l
 induction l with
 | nil=>rfl
 | cons x r ih=>
  simp only[List.all_cons,ih];cases p x<;>cases q x<;>cases r.all p<;>cases r.all q<;>rfl
theorem k117{p:Prop}(h:p:=by
  simp only[if_true];cases h:ts.length==0 with
  | false=>simp
  | true=>rw[h0 (by simpa using h)];simp
  ):p:=h
theorem k101{p:Prop}(h:p:=by
  unfold inAll mayIn
  congr 1
  funext x
  rw[hr];cases (kindT x==0)<;>cases (kindT x==k)<;>cases rightE n x<;>rfl
  ):p:=h
theorem right_same (n:Nat)(k:Int)(s:ByteArray)(ts:List (DataW Unit)):rightE (n+1) (node k s ts)=rightP n k s ts:=by
 rw[rightE,subs_node,kindT_node,nameT_node]
 unfold shapely rightP
 have h0:ts.length=0->ts=[]:=List.length_eq_zero_iff.1
 by_cases k0:k=0
 ·subst k0
  exact k117
 rw[if_neg k0,if_neg k0]
 by_cases k1:k=1
 ·subst k1
  exact k117
 rw[if_neg k1,if_neg k1]
 by_cases k2:k=2\/k=3
 ·rw[if_neg oo,if_pos k2,if_pos k2]
  have hr:rowK k=true:=by unfold rowK;rcases k2 with rfl | rfl<;>rfl
  have hi:inAll n k ts=(ts.all (fun x => !(kindT x==0)&&rightE n x)&&ts.all (fun x => !(kindT x==k))):=by
   rw[<-all_and];exact k101
  rw[hi];cases ts.all (fun x => !(kindT x==0)&&rightE n x)<;>cases ts.all (fun x => !(kindT x==k))<;>cases s.toList.isEmpty<;>cases decide (2<=ts.length)<;>rfl
 rw[if_neg k2,if_neg k2]
 by_cases k4:k=4\/k=5\/k=6
 ·rw[if_pos k4,if_pos k4]
  have hr:rowK k=false:=by unfold rowK;rcases k4 with rfl | rfl | rfl<;>rfl
  have hi:inAll n k ts=ts.all (fun x => !(kindT x==0)&&rightE n x):=by
   exact k101
  rw[hi,Bool.and_comm]
 ·rw[if_neg k4,if_neg k4,Bool.and_false]
theorem k92{p:Prop}(h:p:=by
  go_wp2
  go_roundw
  case rel=>exact⟨i+1,oo,rfl,HI.out,hB.trans (hB2.mono hB.size)⟩
  case measure=>simp[intOf];omega
  ):p:=h
theorem inall_calls (n:Nat)(ih:∀(t:DataW Unit) (v:Value) (w:World),Ex w n t v->named n t->Calls Tryz.prog 162 #[v] w fun e w' => e=.returned (.bool (rightE n t))/\Below w.heap.size w w')
  (k:Int) (s:ByteArray) (ts:List (DataW Unit)) (v:Value) (w:World) (h:Ex w (n+1) (node k s ts) v) (hN:named (n+1) (node k s ts)) :
  Calls Tryz.prog 170 #[v] w fun e w' => e=.returned (.bool (inAll n k ts))/\Below w.heap.size w w' := by
 obtain⟨k', s', a,len,cap,ts', hn,rfl,hl,hz,hk⟩:=h
 obtain⟨rfl,rfl,rfl⟩:=node_inj.1 hn
 have hNk:=hN.2
 rw[subs_node] at hNk
 obtain⟨R,hR⟩:∃R,inAll n k ts=R:=⟨_,rfl⟩
 rw[hR]
 have HR:Hid (inAll n k ts=R):=hR
 clear hR hn hN
 go_enter Tryz.func170,Tryz.ntmps170
 go_wp2
 go_loopw [8] (fun i w' => ∃j:Nat,j<=len/\i=.int .i64 (j:Int)/\inAll n k (ts.take j)=true/\Below (w.alloc (.cells #[.int .i64 k,.string s,.slice a len cap] 69)).heap.size (w.alloc (.cells #[.int .i64 k,.string s,.slice a len cap] 69)) w') (fun i _=>len - (intOf i).toNat)
 case atStart=>exact⟨0,oo,rfl,rfl,zzd _ _⟩
 case round=>
  obtain⟨i,hi,rfl,hT,hB⟩:=hrel;obtain⟨b1,-,b0,hBw⟩:=one_kept hB
  have b2:∀o,(wr.alloc o).cell? ⟨w.heap.size,0,none⟩=some (.int .i64 k):=fun o=>by
   rw[World.cell?_alloc_lt _ _ ⟨w.heap.size,0,none⟩ (by have:=hB.size;simp only[World.size_alloc] at this;show w.heap.size<wr.heap.size;omega)];exact b1
  by_cases hlt:i<len
  ·obtain⟨b,o,x,kx,sx,ax,lx,cx,rfl,_,hx,hcx⟩:=kid_at hl hk hlt
   obtain⟨p0,p1,p2,p3⟩:=hcx wr hBw;have hkx:kindT x=kx:=ex_kind p3
   have hst:inAll n k (ts.take (i+1))=(mayIn kx k&&rightE n x):=by
    have:=all_step (p:=fun x=>mayIn (kindT x) k&&rightE n x) hx
    unfold inAll at hT ⊢;rw[this,hT,Bool.true_and,hkx]
   have hno:(mayIn kx k&&rightE n x)=false->R=false:=fun h=>by
    rw[<-HR.out];exact all_not hx (by rw[hkx];exact h)
   (have HM:Hid (∀W,Calls Tryz.prog 179 #[.int .i64 kx,.int .i64 k] W fun e w' => e=.returned (.bool (mayIn kx k))/\w' = W):=fun W=>may_calls kx k W);(have HC:Hid (∀W,Below wr.heap.size wr W->Calls Tryz.prog 162 #[.agg #[.int .i64 kx,.string sx,.slice ax lx cx]] W fun e w' => e=.returned (.bool (rightE n x))/\Below W.heap.size W w'):=fun W hW=>ih x _ W (Ex.below hW _ _ _ p3) (hNk x (zzj hx)));have HI:Hid (inAll n k (ts.take (i+1))=(mayIn kx k&&rightE n x)):=hst;have HO:Hid ((mayIn kx k&&rightE n x)=false->R=false):=hno;(have HW:Hid (∀o,Below wr.heap.size wr (wr.alloc o)):=fun o=>(zzd _ wr).alloc (zzb _) _);clear hcx hk p3 hst hno hx ih hkx hT hNk;generalize mayIn kx k=mk at *;generalize rightE n x=rx at *;cases mk with
   | false=>
    (go_wp2_with fail);refine(HM.out _).mono ?_;rintro e W ⟨rfl,hW⟩;rw[hW];go_wp2;go_ret;exact⟨by rw[HO.out rfl];rfl,hBw.trans ((HW.out _).mono hBw.size)⟩
   | true=>
    (go_wp2_with fail);refine(HM.out _).mono ?_;rintro e W ⟨rfl,hW⟩;rw[hW];(go_wp2_with fail);refine(HC.out _ (HW.out _)).mono ?_;rintro e W2 ⟨rfl,hW2⟩;have hB2:Below wr.heap.size wr W2:=(HW.out _).trans (hW2.mono (by simp));cases rx with
    | false=>
     go_wp2;go_ret;exact⟨by rw[HO.out rfl];rfl,hBw.trans (hB2.mono hBw.size)⟩
    | true=>
     exact k92
  ·obtain rfl:i=len:=by omega
   have HF:Hid (R=true):=by
    show R=true
    rw[<-HR.out,<-hT,zzm (Nat.le_of_eq hl)]
   clear hk ih hNk hT;go_wp2;go_ret;exact⟨by rw[HF.out];rfl,hBw⟩
theorem k127{p:Prop}(h:p:=by
  go_enter Tryz.func162,Tryz.ntmps162;go_wp2;go_ret;exact⟨rfl,HB0.out _⟩
  ):p:=h
theorem k82{p:Prop}(h:p:=by
  rcases k2 with rfl | rfl
  all_goals
   go_enter Tryz.func162,Tryz.ntmps162;go_wp2;go_ret;exact⟨rfl,HB0.out _⟩
  ):p:=h
theorem k74{p:Prop}(h:p:=by
  rcases k4 with rfl | rfl | rfl
  all_goals
   go_enter Tryz.func162,Tryz.ntmps162;go_wp2;go_ret;exact⟨rfl,HB0.out _⟩
  ):p:=h
theorem k68{p:Prop}(h:p:=by
  go_enter Tryz.func162,Tryz.ntmps162;(go_wp2_with fail);refine(HL.out _).mono ?_;rintro e W ⟨rfl,hW⟩;rw[hW];go_wp2;go_ret;exact⟨rfl,HB0.out _⟩
  ):p:=h
theorem k63{p:Prop}(h:p:=by
  go_enter Tryz.func162,Tryz.ntmps162;(go_wp2_with fail);refine(HI.out _ (HB0.out _)).mono ?_;rintro e W ⟨rfl,hW⟩;go_wp2;go_ret;exact⟨rfl,HW.out _ _ hW⟩
  ):p:=h
theorem rightp_calls:∀(n:Nat) (t:DataW Unit) (v:Value) (w:World),Ex w n t v->named n t →
  Calls Tryz.prog 162 #[v] w fun e w' => e=.returned (.bool (rightE n t))/\Below w.heap.size w w' := by
 intro n
 induction n with
 | zero=>intro t v w h;exact h.elim
 | succ n ih=>
  intro t v w h hN;have hh:=h;obtain⟨k,s,a,len,cap,ts,rfl,rfl,hl,hz,hk⟩:=h;(have HI:Hid (∀W,Below w.heap.size w W->Calls Tryz.prog 170 #[.agg #[.int .i64 k,.string s,.slice a len cap]] W fun e w' => e=.returned (.bool (inAll n k ts))/\Below W.heap.size W w'):=fun W hW=>inall_calls n ih k s ts _ W (Ex.below hW _ _ _ hh) hN);(have hNs:s.size<=9223372036854775807:=by have:=hN.1;rwa [nameT_node] at this);(have HL:Hid (∀W,Calls Tryz.prog 169 #[.string s] W fun e w' => e=.returned (.bool (letters s))/\w' = W):=fun W=>isname_calls s W hNs);rw[right_same];unfold rightP;rw[hl];(have HB0:Hid (∀o,Below w.heap.size w (w.alloc o)):=fun o=>(zzd _ w).alloc (zzb _) _);clear hk ih hN hh hz hl hNs;have hq0:=int_beq len 0;have hq1:=int_beq len 1;have hq2:=int_le len;rw[hq0,hq1,hq2];clear hq0 hq1 hq2
  by_cases k0:k=0
  ·subst k0
   simp only[if_true];cases he:s.toList.isEmpty with
   | true=>
    exact k127
   | false=>
    exact k127
  rw[if_neg k0];have e0:(k==0)=false:=by simpa using k0
  by_cases k1:k=1
  ·subst k1
   simp only[if_true];generalize letters s=b at *;cases b with
   | true=>
    exact k68
   | false=>
    exact k68
  rw[if_neg k1];(have e1:(k==1)=false:=by simpa using k1);generalize inAll n k ts=q at *;have HW:Hid (∀o W,Below (w.alloc o).heap.size (w.alloc o) W->Below w.heap.size w W):=fun o W h=>(HB0.out o).trans (h.mono (by simp))
  by_cases k2:k=2\/k=3
  ·rw[if_pos k2]
   clear k0 k1;cases he:s.toList.isEmpty with
   | true=>
    cases hc:decide ((2:Int)<=(len:Int)) with
    | true=>
     have hc' : (2:Int)<=(len:Int):=of_decide_eq_true hc;rcases k2 with rfl | rfl
     all_goals
      exact k63
    | false=>
     have hc' : ¬(2:Int)<=(len:Int):=of_decide_eq_false hc;exact k82
   | false=>
    exact k82
  rw[if_neg k2];(have e2:(k==2)=false:=by rw[beq_eq_false_iff_ne];omega);have e3:(k==3)=false:=by rw[beq_eq_false_iff_ne];omega
  by_cases k4:k=4\/k=5\/k=6
  ·rw[if_pos k4]
   clear k0 k1 k2;cases he:s.toList.isEmpty with
   | true=>
    cases hc:((len:Int)==((1:Nat):Int)) with
    | true=>
     have hc' : ((len:Int)==(1:Int))=true:=hc;rcases k4 with rfl | rfl | rfl
     all_goals
      exact k63
    | false=>
     have hc' : ((len:Int)==(1:Int))=false:=hc;exact k74
   | false=>
    exact k74
  rw[if_neg k4];(have e4:(k==4)=false:=by rw[beq_eq_false_iff_ne];omega);(have e5:(k==5)=false:=by rw[beq_eq_false_iff_ne];omega);(have e6:(k==6)=false:=by rw[beq_eq_false_iff_ne];omega);clear k0 k1 k2 k4;exact k127
theorem check_rb (n:Nat)(t:DataW Unit):checkE n t=if rb n t 1 200<0 then 2 else if rightE n t=true then 0 else 4:=by
 unfold checkE
 by_cases h:200<cnt n t\/60<dp n t
 ·have e:rb n t 1 200 = -1:=by unfold rb;exact if_neg oo
  rw[if_pos h,e,if_pos (by decide)]
 ·have e:rb n t 1 200=200 - cnt n t:=by unfold rb;exact if_pos oo
  have e2:¬(200 - cnt n t<0):=by omega
  rw[if_neg h,e,if_neg e2]
theorem k106{p:Prop}(h:p:=by
  cases n with
  | zero=>exact h.elim
  | succ n=>obtain⟨k,s,a,len,cap,ts,_,rfl,_⟩:=h;exact⟨k,s,a,len,cap,rfl⟩
  ):p:=h
theorem k41{p:Prop}(h:p:=by
  go_enter Tryz.func143,Tryz.ntmps143;(go_wp2_with fail);refine(H1.out _ (HB0.out _)).mono ?_;rintro e W ⟨rfl,hW⟩;obtain⟨c0,c1,c2,hBw⟩:=HF0.out W hW;(go_wp2_with fail);refine(H3.out _ hBw).mono ?_;rintro e W2 ⟨rfl,hW2⟩;go_wp2;go_ret;exact⟨rfl,hBw.trans (hW2.mono hBw.size)⟩
  ):p:=h
theorem check_calls (n:Nat)(t:DataW Unit)(v:Value)(w:World)(h:Ex w n t v)(hN:named n t) :
  Calls Tryz.prog 143 #[v] w fun e w' => e=.returned (.int .i64 (checkE n t))/\Below w.heap.size w w' := by
 have H1:Hid (∀W,Below w.heap.size w W->Calls Tryz.prog 161 #[v,.int .i64 1,.int .i64 200] W fun e w' => e=.returned (.int .i64 (rb n t 1 200))/\Below W.heap.size W w'):=fun W hW=>room_calls n t v W 1 200 (Ex.below hW _ _ _ h) (by decide) (by decide) (by decide) (by decide)
 have H3:Hid (∀W,Below w.heap.size w W->Calls Tryz.prog 162 #[v] W fun e w' => e=.returned (.bool (rightE n t))/\Below W.heap.size W w'):=fun W hW=>rightp_calls n t v W (Ex.below hW _ _ _ h) hN
 rw[check_rb]
 have hr:=rb_range n t 1 200
 generalize rb n t 1 200=r at *
 generalize rightE n t=b at *
 have HB0:Hid (∀o,Below w.heap.size w (w.alloc o)):=fun o=>(zzd _ w).alloc (zzb _) _
 obtain⟨k,s,a,len,cap,rfl⟩:∃k s a len cap,v=.agg #[.int .i64 k,.string s,.slice a len cap]:=by
  exact k106
 have f0:∀W:World,Below (w.alloc (.cells #[.int .i64 k,.string s,.slice a len cap] 69)).heap.size (w.alloc (.cells #[.int .i64 k,.string s,.slice a len cap] 69)) W->W.cell? ⟨w.heap.size,0,none⟩=some (.int .i64 k)/\W.cell? ⟨w.heap.size,1,none⟩=some (.string s)/\W.cell? ⟨w.heap.size,2,none⟩=some (.slice a len cap)/\Below w.heap.size w W:=fun W hW=>one_kept hW
 have HF0:Hid (∀W:World,Below (w.alloc (.cells #[.int .i64 k,.string s,.slice a len cap] 69)).heap.size (w.alloc (.cells #[.int .i64 k,.string s,.slice a len cap] 69)) W->W.cell? ⟨w.heap.size,0,none⟩=some (.int .i64 k)/\W.cell? ⟨w.heap.size,1,none⟩=some (.string s)/\W.cell? ⟨w.heap.size,2,none⟩=some (.slice a len cap)/\Below w.heap.size w W):=f0
 clear f0 h hN
 by_cases hneg:r<0
 ·rw[if_pos hneg]
  go_enter Tryz.func143,Tryz.ntmps143;(go_wp2_with fail);refine(H1.out _ (HB0.out _)).mono ?_;rintro e W ⟨rfl,hW⟩;obtain⟨-,-,-,hBw⟩:=HF0.out W hW;go_wp2;go_ret;exact⟨rfl,hBw⟩
 ·rw[if_neg hneg]
  cases b with
  | true=>
   exact k41
  | false=>
   exact k41
end Go.Proofs.YtjkebndkeamijaaGreatDoor
