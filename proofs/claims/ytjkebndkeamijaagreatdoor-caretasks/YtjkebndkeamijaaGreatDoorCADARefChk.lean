/-
  PROVED HERE: what the document calls Check answers.
-/
import Derived.Test.YtjkebndkeamijaaGreatDoorCADANetsB
set_option maxRecDepth 100000
set_option maxHeartbeats 4000000
namespace Go.Proofs.YtjkebndkeamijaaGreatDoor
open Go.RowKit
theorem gPv:∀(n:Nat) (t:DataW Unit) (v:Value) (w:World),Ex w n t v->cnt n t<=1152921504606846976 →
  Calls Tryz.prog 136 #[v] w fun e w' => e=.returned (.int .i64 (cnt n t))/\Below w.heap.size w w' := by
 intro n
 induction n with
 | zero=>intro t v w h;exact h.elim
 | succ n ih=>
  intro t v w h hc;obtain⟨k,s,a,len,cap,ts,rfl,rfl,hl,hz,hk⟩:=h;have hcn:=pN n;rw[cnt,iC] at *;generalize cnt n=f at *;(have hall:Hid (iX f (ts.take len)=iX f ts):=by show _=_;rw[zzm (Nat.le_of_eq hl)]);generalize hR:iX f ts=R at *;have HR:Hid (iX f ts=R):=hR;clear hR;go_enter Tryz.func136,Tryz.ntmps136;go_wp2
  go_loopw [3,4] (fun u i w' => ∃j:Nat,j<=len/\i=.int .i64 (j:Int)/\u=.int .i64 (1+iX f (ts.take j))/\Below (w.alloc (.cells #[.int .i64 k,.string s,.slice a len cap] 69)).heap.size (w.alloc (.cells #[.int .i64 k,.string s,.slice a len cap] 69)) w') (fun _ i _=>len - (intOf i).toNat)
  case atStart=>exact⟨0,oo,rfl,by simp[iX],zzd _ _⟩
  case round=>
   obtain⟨i,hi,rfl,rfl,hB⟩:=hrel;obtain⟨-,-,b0,hBw⟩:=lT hB
   by_cases hlt:i<len
   ·obtain⟨b,o,x,kx,sx,ax,lx,cx,rfl,_,hx,hcx⟩:=pM hl hk hlt
    obtain⟨p0,p1,p2,p3⟩:=hcx wr hBw;have hst:=gFd (f:=f) hx;have h1:=gFe hcn ts (i+1);have h2:=oT hcn (ts.take i);have h3:=hcn x;rw[HR.out] at h1;rw[hst] at h1;have HS:Hid (iX f (ts.take (i+1))=iX f (ts.take i)+f x):=hst;have HC:=ih x _ wr p3 oo;clear hcx hk p3 hst hx ih;generalize iX f (ts.take i)=z at *;generalize f x=y at *;(go_wp2_with fail);refine HC.mono ?_;rintro e W1 ⟨rfl,hB1⟩;go_wp2
    go_roundw
    case rel=>exact⟨i+1,oo,rfl,by rw[HS.out];congr 1;omega,hB.trans (hB1.mono hB.size)⟩
    case measure=>simp[intOf];omega
   ·obtain rfl:i=len:=by omega
    rw[hall.out];clear hk ih;go_wp2;go_ret;exact⟨rfl,hBw⟩
theorem gTs:∀(n:Nat) (t:DataW Unit) (v:Value) (w:World),Ex w n t v->cnt n t<=1152921504606846976 →
  Calls Tryz.prog 137 #[v] w fun e w' => e=.returned (.int .i64 (dp n t))/\Below w.heap.size w w' := by
 intro n
 induction n with
 | zero=>intro t v w h;exact h.elim
 | succ n ih=>
  intro t v w h hc;obtain⟨k,s,a,len,cap,ts,rfl,rfl,hl,hz,hk⟩:=h;have hcn:=pN n;have hdn:=gJn n;have hdc:=hGm n;rw[cnt,iC] at hc;rw[dp,iC];generalize cnt n=f at *;generalize dp n=d at *;(have hall:Hid (iK d (ts.take len)=iK d ts):=by show _=_;rw[zzm (Nat.le_of_eq hl)]);have hg0:=wT hdc hcn ts;have hg1:=nR d ts;generalize hR:iK d ts=R at *;clear hR;go_enter Tryz.func137,Tryz.ntmps137;go_wp2
  go_loopw [3,4] (fun u i w' => ∃j:Nat,j<=len/\i=.int .i64 (j:Int)/\u=.int .i64 (iK d (ts.take j))/\Below (w.alloc (.cells #[.int .i64 k,.string s,.slice a len cap] 69)).heap.size (w.alloc (.cells #[.int .i64 k,.string s,.slice a len cap] 69)) w') (fun _ i _=>len - (intOf i).toNat)
  case atStart=>exact⟨0,oo,rfl,by simp[iK],zzd _ _⟩
  case round=>
   obtain⟨i,hi,rfl,rfl,hB⟩:=hrel;obtain⟨-,-,b0,hBw⟩:=lT hB
   by_cases hlt:i<len
   ·obtain⟨b,o,x,kx,sx,ax,lx,cx,rfl,_,hx,hcx⟩:=pM hl hk hlt
    obtain⟨p0,p1,p2,p3⟩:=hcx wr hBw;have HS:Hid (iK d (ts.take (i+1))=max (iK d (ts.take i)) (d x)):=zF hx hdn;have h1:=gVk hcn (zzj hx);have HC:=ih x _ wr p3 oo;clear hcx hk p3 hx ih;generalize iK d (ts.take i)=z at *;generalize d x=y at *;(go_wp2_with fail);refine HC.mono ?_;rintro e W1 ⟨rfl,hB1⟩;go_wp2
    go_roundw
    case rel=>exact⟨i+1,oo,rfl,by (rw[HS.out])<;>(congr 1<;>(split<;>omega)),hB.trans (hB1.mono hB.size)⟩
    case measure=>simp[intOf];omega
   ·obtain rfl:i=len:=by omega
    rw[hall.out];clear hk ih;go_wp2;go_ret;exact⟨rfl,hBw⟩
end Go.Proofs.YtjkebndkeamijaaGreatDoor
/- RefLetters: the document's own Letters at every text: what it returns; the world is as it was. -/
namespace Go.Proofs.YtjkebndkeamijaaGreatDoor
open Go.RowKit
theorem zD (s:ByteArray)(w:World)(hs:s.size<=9223372036854775807):Calls Tryz.prog 93 #[.string s] w fun e w' => e=.returned (.bool (jJ s))/\w' = w:=by
 obtain⟨R,hR⟩:∃R,jJ s=R:=⟨_,rfl⟩
 rw[hR]
 have HR:Hid (jJ s=R):=hR
 clear hR
 go_enter Tryz.func93,Tryz.ntmps93
 go_wp2
 go_loop [3] (fun u=>∃j:Nat,j<=s.size/\u=.int .i64 (j:Int)/\(s.toList.take j).all gH=true) (fun u=>s.size - (intOf u).toNat)
 case atStart=>exact⟨0,oo,rfl,rfl⟩
 case round=>
  obtain⟨i,hi,rfl,hT⟩:=hrel
  by_cases hlt:i<s.size
  ·have hat:=gQf hlt
   rw[hT,Bool.true_and] at hat;cases hc:gH (s[i]'hlt) with
   | true=>
    rw[hc] at hat;have HT:Hid ((s.toList.take (i+1)).all gH=true):=hat;simp only[gH,Bool.and_eq_true,decide_eq_true_eq] at hc;(have h1:decide (((s[i]'hlt).toNat:Int)<97)=false:=by simp;omega);(have h2:decide ((122:Int)<((s[i]'hlt).toNat:Int))=false:=by simp;omega);(have h3:¬(((s[i]'hlt).toNat:Int)<97):=by omega);(have h4:¬((122:Int)<((s[i]'hlt).toNat:Int)):=by omega);clear hat hT hc;go_wp2
    go_round
    case rel=>exact⟨i+1,oo,rfl,HT.out⟩
    case measure=>simp[intOf];omega
   | false=>
    have HF:Hid (R=false):=by
     show R=false
     rw[<-HR.out];unfold jJ
     have:s.toList.all gH=false:=by
      cases ha:s.toList.all gH with
      | false=>rfl
      | true=>
       have:=List.all_eq_true.1 ha (s[i]'hlt) (zzj (pU s i hlt))
       rw[hc] at this;cases this
     rw[this]
     rfl
    have hd:((s[i]'hlt).toNat:Int)<97\/(decide (((s[i]'hlt).toNat:Int)<97)=false/\(122:Int)<((s[i]'hlt).toNat:Int)):=by
     simp only[gH,Bool.and_eq_false_iff,decide_eq_false_iff_not] at hc
     by_cases h:(s[i]'hlt).toNat<97
     ·exact .inl oo
     ·exact .inr ⟨by simp;omega,oo⟩
    clear hat hT hc;rcases hd with hd | ⟨hd,hd2⟩
    all_goals
     go_wp2;go_ret;exact⟨by rw[HF.out];rfl,rfl⟩
  ·obtain rfl:i=s.size:=by omega
   have HF:Hid (R = !s.toList.isEmpty):=by
    show R=_
    rw[<-HR.out];unfold jJ;rw[zzm (by rw[kZ];exact zzb _)] at hT;rw[hT,Bool.true_and]
   clear hT;go_wp2;go_ret;exact⟨by rw[HF.out];rfl,rfl⟩
end Go.Proofs.YtjkebndkeamijaaGreatDoor
/- RefRight: whether a tree is right, by the document's own right, and its Check: what they return; nothing that lay before is turned. -/
namespace Go.Proofs.YtjkebndkeamijaaGreatDoor
open Go.RowKit
theorem k100{p:Prop}(h:p:=by
  clear HRs;rw[hs] at HL;(go_wp2_with fail);refine HL.mono ?_;rintro e W1 ⟨rfl,hW1⟩;rw[hW1];go_wp2;go_ret;exact⟨by rw[HS.out];rfl,hBw⟩
  ):p:=h
theorem k79{p:Prop}(h:p:=by
  clear hcx hk p3 hat hno hx hT;go_wp2_with fail
  go_quiet (fail)
  go_wp2
  go_roundw
  case rel=>exact⟨j+1,oo,rfl,HT.out,below_drewN hB _⟩
  case measure=>simp[intOf];omega
  ):p:=h
theorem k70{p:Prop}(h:p:=by
  (have HS:Hid (R=false):=by show R=_;rw[HRs.out,hno (by rw[hq];rfl)];rfl);clear hcx hk p3 hat hno hx hT HRs;go_wp2_with fail
  go_quiet (fail)
  go_wp2;go_ret;exact⟨by rw[HS.out];rfl,below_drewN hBw _⟩
  ):p:=h
theorem k40{p:Prop}(h:p:=by
  (replace HRs:Hid (R=(s.toList.isEmpty&&((i:Int)==1))):=by show R=_;rw[HRs.out];unfold nN;rw[if_neg oo,if_neg oo,if_pos oo,hl,gBi];rfl);clear hk;cases hs:s.toList.isEmpty with
  | true=>
   (have HS:Hid (R=((i:Int)==1)):=by show R=_;rw[HRs.out,hs,Bool.true_and]);clear HRs;go_wp2;go_ret;exact⟨by rw[HS.out];rfl,hBw⟩
  | false=>
   (have HS:Hid (R=false):=by show R=_;rw[HRs.out,hs];rfl);clear HRs;go_wp2;go_ret;exact⟨by rw[HS.out];rfl,hBw⟩
  ):p:=h
theorem k35{p:Prop}(h:p:=by
  (obtain rfl:j=i:=by omega);rw[zzm (Nat.le_of_eq hl)] at hT;(replace HRs:Hid (R=(s.toList.isEmpty&&decide ((2:Int)<=(j:Int)))):=by show R=_;rw[HRs.out,hT,Bool.true_and]);clear hk hT;cases hs:s.toList.isEmpty with
  | true=>
   (have HS:Hid (R=decide ((2:Int)<=(j:Int))):=by show R=_;rw[HRs.out,hs,Bool.true_and]);clear HRs;go_wp2;go_ret;exact⟨by rw[HS.out];rfl,hBw⟩
  | false=>
   (have HS:Hid (R=false):=by show R=_;rw[HRs.out,hs];rfl);clear HRs;go_wp2;go_ret;exact⟨by rw[HS.out];rfl,hBw⟩
  ):p:=h
theorem gNr:∀(n:Nat) (t:DataW Unit) (v:Value) (w:World),Ex w n t v->oG n t →
  Calls Tryz.prog 138 #[v] w fun e w' => e=.returned (.bool (jN n t))/\Below w.heap.size w w' := by
 intro n
 induction n with
 | zero=>intro t v w h;exact h.elim
 | succ n ih=>
  intro t v w h hN;obtain⟨k,s,a,len,cap,ts,rfl,rfl,hl,hz,hk⟩:=h;obtain⟨hN1,hN2⟩:=hN;rw[kT] at hN1;rw[iC] at hN2;rw[jN,iC,iN,kT];generalize hp:(fun x => !(iE x==0)&&jN n x)=p at *;(have HP:Hid (∀x,p x=(!(iE x==0)&&jN n x)):=fun x=>by rw[<-hp]);clear hp;obtain⟨R,hR⟩:∃R,(ts.all p&&nN k s ts)=R:=⟨_,rfl⟩;rw[hR];have HR:Hid ((ts.all p&&nN k s ts)=R):=hR;clear hR;go_enter Tryz.func138,Tryz.ntmps138;go_wp2
  go_loopw [3] (fun i w' => ∃j:Nat,j<=len/\i=.int .i64 (j:Int)/\(ts.take j).all p=true/\Below (w.alloc (.cells #[.int .i64 k,.string s,.slice a len cap] 69)).heap.size (w.alloc (.cells #[.int .i64 k,.string s,.slice a len cap] 69)) w') (fun i _=>len - (intOf i).toNat)
  case atStart=>exact⟨0,oo,rfl,rfl,zzd _ _⟩
  case round=>
   obtain⟨i,hi,rfl,hT,hB⟩:=hrel;obtain⟨b0,b1,b2,hBw⟩:=lT hB
   by_cases hlt:i<len
   ·obtain⟨b,o,x,kx,sx,ax,lx,cx,rfl,_,hx,hcx⟩:=pM hl hk hlt
    obtain⟨p0,p1,p2,p3⟩:=hcx wr hBw;have hkx:=gEv p3;have hat:=gBs (p:=p) hx;rw[hT,Bool.true_and] at hat;have hpx:=HP.out x;rw[hkx] at hpx
    by_cases z0:kx=0
    ·subst z0
     (have HF:Hid (R=false):=by show R=false;rw[<-HR.out,gBt hx (by rw[hpx];rfl)];rfl);clear hcx hk ih p3 hat hpx hx;go_wp2;go_ret;exact⟨by rw[HF.out];rfl,hBw⟩
    ·have e0:(kx==0)=false:=by simpa using z0
     rw[e0] at hpx;have HC:=ih x _ wr p3 (hN2 x (zzj hx));cases hr:jN n x with
     | false=>
      rw[hr] at hpx HC;(have HF:Hid (R=false):=by show R=false;rw[<-HR.out,gBt hx (by rw[hpx];rfl)];rfl);clear hcx hk ih p3 hat hpx hx hr;(go_wp2_with fail);refine HC.mono ?_;rintro e W1 ⟨rfl,hB1⟩;go_wp2;go_ret;exact⟨by rw[HF.out];rfl,hBw.trans (hB1.mono hBw.size)⟩
     | true=>
      rw[hr] at hpx HC;rw[hpx] at hat;have HT:Hid ((ts.take (i+1)).all p=true):=hat;clear hcx hk ih p3 hat hpx hx hr hT;(go_wp2_with fail);refine HC.mono ?_;rintro e W1 ⟨rfl,hB1⟩;go_wp2
      go_roundw
      case rel=>exact⟨i+1,oo,rfl,HT.out,hB.trans (hB1.mono hB.size)⟩
      case measure=>simp[intOf];omega
   ·obtain rfl:i=len:=by omega
    rw[zzm (Nat.le_of_eq hl)] at hT;(have HRs:Hid (R=nN k s ts):=by show R=_;rw[<-HR.out,hT,Bool.true_and]);clear hT HR HP ih hN2
    by_cases k0:k=0
    ·subst k0
     (replace HRs:Hid (R=(s.toList.isEmpty&&((i:Int)==0))):=by show R=_;rw[HRs.out];unfold nN;rw[if_pos rfl,hl,gBi];rfl);clear hk;cases hs:s.toList.isEmpty with
     | true=>
      (have HS:Hid (R=((i:Int)==0)):=by show R=_;rw[HRs.out,hs,Bool.true_and]);clear HRs;go_wp2;go_ret;exact⟨by rw[HS.out];rfl,hBw⟩
     | false=>
      (have HS:Hid (R=false):=by show R=_;rw[HRs.out,hs];rfl);clear HRs;go_wp2;go_ret;exact⟨by rw[HS.out];rfl,hBw⟩
    have e0:(k==0)=false:=by simpa using k0
    by_cases k1:k=1
    ·subst k1
     (replace HRs:Hid (R=(jJ s&&((i:Int)==0))):=by show R=_;rw[HRs.out];unfold nN;rw[if_neg oo,if_pos rfl,hl,gBi];rfl);have HL:=zD s wr hN1;clear hk;cases hs:jJ s with
     | true=>
      (have HS:Hid (R=((i:Int)==0)):=by show R=_;rw[HRs.out,hs,Bool.true_and]);exact k100
     | false=>
      (have HS:Hid (R=false):=by show R=_;rw[HRs.out,hs];rfl);exact k100
    have e1:(k==1)=false:=by simpa using k1
    by_cases k4:k=4
    ·subst k4
     exact k40
    have e4:(k==4)=false:=by simpa using k4
    by_cases k5:k=5
    ·subst k5
     exact k40
    have e5:(k==5)=false:=by simpa using k5
    by_cases k6:k=6
    ·subst k6
     exact k40
    have e6:(k==6)=false:=by simpa using k6
    by_cases k2:k=2
    ·subst k2
     (replace HRs:Hid (R=(ts.all (fun x => !(iE x==2))&&(s.toList.isEmpty&&decide ((2:Int)<=(i:Int))))):=by show R=_;rw[HRs.out];unfold nN;rw[if_neg oo,if_neg oo,if_neg oo,if_pos oo,hl,gTd]);go_wp2
     go_loopw [4] (fun u w' => ∃j:Nat,j<=i/\u=.int .i64 (j:Int)/\(ts.take j).all (fun x => !(iE x==2))=true/\Below (w.alloc (.cells #[.int .i64 2,.string s,.slice a i cap] 69)).heap.size (w.alloc (.cells #[.int .i64 2,.string s,.slice a i cap] 69)) w') (fun u _=>i - (intOf u).toNat)
     case atStart=>exact⟨0,oo,rfl,rfl,hB⟩
     case round=>
      rename_i wr0
      clear b0 b1 b2 hBw hB;obtain⟨j,hj,rfl,hT,hB⟩:=hrel;obtain⟨b0,b1,b2,hBw⟩:=lT hB
      by_cases hlt2:j<i
      ·obtain⟨b,o,x,kx,sx,ax,lx,cx,rfl,_,hx,hcx⟩:=pM hl hk hlt2
       obtain⟨p0,p1,p2,p3⟩:=hcx _ hBw;have hkx:=gEv p3;have hat:=gBs (p:=fun x => !(iE x==2)) hx;rw[hT,Bool.true_and] at hat;simp only[hkx] at hat;have hno:=gBt (p:=fun x => !(iE x==2)) hx;simp only[hkx] at hno;cases hq:kx==2 with
       | true=>
        exact k70
       | false=>
        rw[hq] at hat;have HT:Hid ((ts.take (j+1)).all (fun x => !(iE x==2))=true):=hat;exact k79
      ·exact k35
    have e2:(k==2)=false:=by simpa using k2
    by_cases k3:k=3
    ·subst k3
     (replace HRs:Hid (R=(ts.all (fun x => !(iE x==3))&&(s.toList.isEmpty&&decide ((2:Int)<=(i:Int))))):=by show R=_;rw[HRs.out];unfold nN;rw[if_neg oo,if_neg oo,if_neg oo,if_pos oo,hl,gTd]);go_wp2
     go_loopw [4] (fun u w' => ∃j:Nat,j<=i/\u=.int .i64 (j:Int)/\(ts.take j).all (fun x => !(iE x==3))=true/\Below (w.alloc (.cells #[.int .i64 3,.string s,.slice a i cap] 69)).heap.size (w.alloc (.cells #[.int .i64 3,.string s,.slice a i cap] 69)) w') (fun u _=>i - (intOf u).toNat)
     case atStart=>exact⟨0,oo,rfl,rfl,hB⟩
     case round=>
      rename_i wr0
      clear b0 b1 b2 hBw hB;obtain⟨j,hj,rfl,hT,hB⟩:=hrel;obtain⟨b0,b1,b2,hBw⟩:=lT hB
      by_cases hlt2:j<i
      ·obtain⟨b,o,x,kx,sx,ax,lx,cx,rfl,_,hx,hcx⟩:=pM hl hk hlt2
       obtain⟨p0,p1,p2,p3⟩:=hcx _ hBw;have hkx:=gEv p3;have hat:=gBs (p:=fun x => !(iE x==3)) hx;rw[hT,Bool.true_and] at hat;simp only[hkx] at hat;have hno:=gBt (p:=fun x => !(iE x==3)) hx;simp only[hkx] at hno;cases hq:kx==3 with
       | true=>
        exact k70
       | false=>
        rw[hq] at hat;have HT:Hid ((ts.take (j+1)).all (fun x => !(iE x==3))=true):=hat;exact k79
      ·exact k35
    (have e3:(k==3)=false:=by simpa using k3);(have HS:Hid (R=false):=by show R=_;rw[HRs.out];unfold nN;rw[if_neg oo,if_neg oo,if_neg oo,if_neg oo]);clear hk HRs;go_wp2;go_ret;exact⟨by rw[HS.out];rfl,hBw⟩
end Go.Proofs.YtjkebndkeamijaaGreatDoor
/- RefCheckE: the document's own Check at every tree: what it returns; nothing that lay before is turned. -/
namespace Go.Proofs.YtjkebndkeamijaaGreatDoor
open Go.RowKit
theorem gBq (n:Nat)(t:DataW Unit)(v:Value)(w:World)(h:Ex w n t v)(hc:cnt n t<=1152921504606846976)(hN:oG n t) :
  Calls Tryz.prog 109 #[v] w fun e w' => e=.returned (.int .i64 (kU n t))/\Below w.heap.size w w' := by
 have H1:=fun W (hW:Below w.heap.size w W)=>gPv n t v W (Ex.below hW _ _ _ h) hc
 have H2:=fun W (hW:Below w.heap.size w W)=>gTs n t v W (Ex.below hW _ _ _ h) hc
 have H3:=fun W (hW:Below w.heap.size w W)=>gNr n t v W (Ex.below hW _ _ _ h) hN
 have hx:∃k s a len cap,v=.agg #[.int .i64 k,.string s,.slice a len cap]:=by
  cases n with
  | zero=>exact h.elim
  | succ n=>
   obtain⟨k,s,a,len,cap,ts,_,e,_⟩:=h;exact⟨k,s,a,len,cap,e⟩
 obtain⟨k,s,a,len,cap,rfl⟩:=hx
 unfold kU
 generalize cnt n t=x1 at *
 generalize dp n t=x2 at *
 generalize jN n t=x3 at *
 clear h hN
 have hB0:∀o,Below w.heap.size w (w.alloc o):=fun o=>(zzd _ w).alloc (zzb _) o
 by_cases h1:200<x1
 ·rw[if_pos (.inl h1)]
  go_enter Tryz.func109,Tryz.ntmps109;(go_wp2_with fail);refine(H1 _ (hB0 _)).mono ?_;rintro e W1 ⟨rfl,b1⟩;obtain⟨c0,c1,c2,g1⟩:=lT b1;go_wp2;go_ret;exact⟨rfl,g1⟩
 have e1:decide (200<x1)=false:=by simpa using h1
 by_cases h2:60<x2
 ·rw[if_pos (.inr h2)]
  go_enter Tryz.func109,Tryz.ntmps109;(go_wp2_with fail);refine(H1 _ (hB0 _)).mono ?_;rintro e W1 ⟨rfl,b1⟩;obtain⟨c0,c1,c2,g1⟩:=lT b1;(go_wp2_with fail);refine(H2 _ g1).mono ?_;rintro e W2 ⟨rfl,b2⟩;go_wp2;go_ret;exact⟨rfl,g1.trans (b2.mono g1.size)⟩
 have e2:decide (60<x2)=false:=by simpa using h2
 rw[if_neg oo]
 cases x3
 all_goals
  simp only[Bool.false_eq_true,if_false,if_true];go_enter Tryz.func109,Tryz.ntmps109;(go_wp2_with fail);refine(H1 _ (hB0 _)).mono ?_;rintro e W1 ⟨rfl,b1⟩;obtain⟨c0,c1,c2,g1⟩:=lT b1;(go_wp2_with fail);refine(H2 _ g1).mono ?_;rintro e W2 ⟨rfl,b2⟩;obtain⟨d0,d1,d2,_⟩:=lT (b1.trans (b2.mono b1.size));have g2:=g1.trans (b2.mono g1.size);(go_wp2_with fail);refine(H3 _ g2).mono ?_;rintro e W3 ⟨rfl,b3⟩;go_wp2;go_ret;exact⟨rfl,g2.trans (b3.mono g2.size)⟩
end Go.Proofs.YtjkebndkeamijaaGreatDoor
/- RefKnown: the document's known and Check of layer 6: what they return; nothing that lay before is turned. -/
namespace Go.Proofs.YtjkebndkeamijaaGreatDoor
open Go.RowKit
def knw (gs:List Grp):Nat->DataW Unit->Bool
 | 0,_=>true
 | n+1,t => !(decide (iE t=1)&&(tyG gs (nV t)).isEmpty)&&(subs t).all (knw gs n)
theorem k157{p:Prop}(h:p:=by
  obtain⟨a0,a1,a2,_⟩:=vO ((hX.block _ hlt1).trans m0);exact⟨a0,a1,a2⟩
  ):p:=h
theorem k06{p:Prop}(h:p:=by
  go_loopw [5] (fun u wr=>∃j:Nat,j<=kl/\u=.int .i64 (j:Int)/\(ts.take j).all (knw gs n)=true/\Below w1.heap.size w1 wr) (fun u _=>kl - (intOf u).toNat)
  case atStart=>exact⟨0,zzn _,rfl,rfl,hR1⟩
  case round=>
   obtain⟨j,hj,rfl,hall,hBj⟩:=hrel;obtain⟨q0,q1,q2⟩:=HK.out wr hBj
   by_cases hlt:j<kl
   ·obtain⟨b', o,x,k', s', a', len', cap', rfl,hx,hcx⟩:=HKID.out j hlt
    obtain⟨r0,r1,r2,hcall⟩:=hcx wr (HBW.out wr hBj).2;(have hji:(j:Int)<(kl:Int):=by omega);have hj0:(0:Int)<=(j:Int):=by omega
    have HS:Hid ((ts.take (j+1)).all (knw gs n)=knw gs n x):=by
     show _=_
     rw[sK hx,hall,Bool.true_and]
    have HNO:Hid (knw gs n x=false->R=false):=fun e=>by
     rw[<-HR2.out,<-List.take_append_drop (j+1) ts,List.all_append,HS.out,e,Bool.false_and]
    have HBJ:Hid (Below w1.heap.size w1 wr):=hBj;generalize knw gs n x=B at *;clear hcx hall hx hBj;(go_wp2_with fail);refine hcall.mono ?_;rintro e X ⟨rfl,hBX⟩;have hB2:Below w1.heap.size w1 X:=HBJ.out.trans (hBX.mono HBJ.out.size);obtain⟨p0,p1,p2⟩:=HK.out X hB2;clear hcall hBX q0 q1 q2 r0 r1 r2;cases B with
    | true=>
     go_wp2_with fail
     go_roundw
     case rel=>exact⟨j+1,oo,by first | rfl | go_num,HS.out,hB2⟩
     case measure=>simp[intOf];omega
    | false=>
     have HEND:Hid (Below w.heap.size w X):=(HBW.out X hB2).1;have HRF:=HNO.out rfl;have HRF' : Hid (R=false):=HRF;clear HRF hB2;go_wp2;go_ret;exact⟨by rw[HRF'.out];rfl,HEND.out⟩
   ·obtain rfl:j=kl:=by omega
    have HEND:Hid (Below w.heap.size w wr/\R=true):=⟨(HBW.out wr hBj).1,by rw[<-HR2.out,<-hall,zzm (Nat.le_of_eq HTL.out)]⟩;clear hall hBj;go_wp2;go_ret;exact⟨by rw[HEND.out.2];rfl,HEND.out.1⟩
  ):p:=h
theorem gOz (w0:World)(ga:Option Addr)(gl gc:Nat)(gs:List Grp)(hG:iS w0 ga gl gs):∀(n:Nat) (t:DataW Unit) (v:Value) (w:World),Ex w0 n t v->Below w0.heap.size w0 w →
  Calls Tryz.prog 110 #[v,.slice ga gl gc] w fun e w' => e=.returned (.bool (knw gs n t))/\Below w.heap.size w w' := by
 intro n
 induction n with
 | zero=>intro t v w h;exact h.elim
 | succ n ih=>
  intro t v w h hB0;obtain⟨k,s,ka,kl,kc,ts,rfl,rfl,hl,hz,hk⟩:=h;obtain⟨R,hR⟩:∃R,knw gs (n+1) (node k s ts)=R:=⟨_,rfl⟩;rw[hR];rw[knw,iN,kT,iC] at hR;obtain⟨w1,hw1⟩:∃w1,w1=w.alloc (.cells #[.int .i64 k,.string s,.slice ka kl kc] 69):=⟨_,rfl⟩;(have hB1:Below w.heap.size w w1:=by rw[hw1];exact(zzd _ w).alloc (zzb _) _);have hB01:Below w0.heap.size w0 w1:=hB0.trans (hB1.mono hB0.size);(have m0:w1.heap[w.heap.size]? = some (.cells #[.int .i64 k,.string s,.slice ka kl kc] 69 (0,0)):=by rw[hw1];exact World.alloc_heap_new w _);have hlt1:w.heap.size<w1.heap.size:=(zza.1 m0).1
  have HK:Hid (∀X:World,Below w1.heap.size w1 X->X.cell? ⟨w.heap.size,0,none⟩=some (.int .i64 k)/\X.cell? ⟨w.heap.size,1,none⟩=some (.string s)/\X.cell? ⟨w.heap.size,2,none⟩=some (.slice ka kl kc)):=fun X hX=>by
   exact k157
  have HW1:Hid (w.alloc (.cells #[.int .i64 k,.string s,.slice ka kl kc] 69)=w1):=hw1.symm;(have HBW:Hid (∀X,Below w1.heap.size w1 X->Below w.heap.size w X/\Below w0.heap.size w0 X):=fun X hX=>⟨hB1.trans (hX.mono hB1.size),hB01.trans (hX.mono hB01.size)⟩);have HT:Hid (Calls Tryz.prog 139 #[.slice ga gl gc,.string s] w1 fun e w' => ∃a' n c,e=.returned (.slice a' n c)/\kA w0 a' n (tyG gs s)/\w' = w1):=gDb s ga gl gc gs w0 w1 hG hB01
  have HKID:Hid (∀i,i<kl->∃b' o x k' s' a' len' cap', ka=some ⟨b', o,none⟩/\ts[i]? = some x/\(∀W:World,Below w0.heap.size w0 W->W.cell? ⟨b', o+i * 3,none⟩=some (.int .i64 k')/\W.cell? ⟨b', o+i * 3+1,none⟩=some (.string s')/\W.cell? ⟨b', o+i * 3+2,none⟩=some (.slice a' len' cap')/\Calls Tryz.prog 110 #[.agg #[.int .i64 k', .string s', .slice a' len' cap'],.slice ga gl gc] W fun e w' => e=.returned (.bool (knw gs n x))/\Below W.heap.size W w')):=fun i hi=>by
   obtain⟨b', o,x,k', s', a', len', cap', e1,_,e2,e3⟩:=pM hl hk hi;exact⟨b', o,x,k', s', a', len', cap', e1,e2,fun W hW=>⟨(e3 W hW).1,(e3 W hW).2.1,(e3 W hW).2.2.1,ih x _ W (e3 w0 (zzd _ _)).2.2.2 hW⟩⟩
  have HTL:Hid (ts.length=kl):=hl;(have hzi:(kl:Int)<=9223372036854775807:=by omega);have hR1:Below w1.heap.size w1 w1:=zzd _ _;obtain⟨q0,q1,q2⟩:=HK.out w1 hR1;have HR:Hid ((!(decide (k=1)&&(tyG gs s).isEmpty)&&ts.all (knw gs n))=R):=hR;clear hk hB0 hB1 hB01 m0 hlt1 hw1 hR ih hl hz
  -- the loop, from whatever world
  by_cases h1:k=1/\tyG gs s=[]
  ·obtain⟨rfl,hty⟩:=h1
   have HRF:Hid (R=false):=by
    show _=_
    rw[<-HR.out,hty]
    simp
   have HTE:Hid (tyG gs s=[]):=hty;clear HKID hty;go_enter Tryz.func110,Tryz.ntmps110;(go_wp2_with fail);rw[HW1.out];refine HT.out.mono ?_;rintro e W ⟨a', n', c', rfl,hI,hWW⟩;subst hWW
   obtain rfl:n' = 0:=by
    have:=hI.1
    rw[HTE.out] at this;simpa using this.symm
   have HEND:Hid (Below w.heap.size w W):=(HBW.out W hR1).1;clear hI;go_wp2;go_ret;exact⟨by rw[HRF.out];rfl,HEND.out⟩
  ·have HR2:Hid (ts.all (knw gs n)=R):=by
    show _=_
    rw[<-HR.out]
    have:(decide (k=1)&&(tyG gs s).isEmpty)=false:=by
     rw[Bool.and_eq_false_iff]
     by_cases hk1:k=1
     ·right
      cases ht:tyG gs s with
      | nil=>exact absurd ⟨hk1,ht⟩ h1
      | cons _ _=>rfl
     ·left
      exact decide_eq_false hk1
    rw[this]
    simp
   (have HLEN:Hid (k=1->tyG gs s≠[]):=fun e h=>h1 ⟨e,h⟩);(have hk1:(k==1)=true\/(k==1)=false:=by cases (k==1)<;>simp);(have HK1:Hid ((k==1)=true->k=1):=fun e=>by simpa using e);clear h1 HR;rcases hk1 with hk1 | hk1
   ·go_enter Tryz.func110,Tryz.ntmps110
    (go_wp2_with fail);rw[HW1.out];refine HT.out.mono ?_;rintro e W ⟨a', n', c', rfl,hI,hWW⟩;rw[hWW]
    have hn:((n' : Int)==0)=false:=by
     rw[beq_eq_false_iff_ne];intro e;have h0:n' = 0:=by omega
     have:=hI.1
     rw[h0] at this;exact HLEN.out (HK1.out hk1) (List.length_eq_zero_iff.1 this)
    (have hni:(n' : Int)<=9223372036854775807:=by have:=hI.2.1;omega);clear hI HT HLEN hWW;(go_wp2_with fail);exact k06
   ·go_enter Tryz.func110,Tryz.ntmps110
    (go_wp2_with fail);rw[HW1.out];exact k06
end Go.Proofs.YtjkebndkeamijaaGreatDoor
/- RefCheck6: the document's Check of layer 6 at every tree (not too great) and all groups: it answers what reg's Check answers; nothing that lay before is turned. -/
namespace Go.Proofs.YtjkebndkeamijaaGreatDoor
open Go.RowKit
theorem hEu {gs:List Grp}(hr:kB gs=true):∀(n:Nat) (t:DataW Unit),jN n t=true->knw gs n t=nmd gs n t:=by
 intro n
 induction n with
 | zero=>intro t h;cases h
 | succ n ih=>
  intro t h;rw[jN,Bool.and_eq_true,List.all_eq_true] at h;obtain⟨h1,h2⟩:=h;rw[knw,nmd]
  by_cases k1:iE t=1
  ·rw[if_pos k1]
   have hs:subs t=[]:=by
    unfold nN at h2;rw[if_neg oo,if_pos k1] at h2;simp at h2;exact h2.2
   rw[hs];have hz:=gMq hr (nV t);rw[decide_eq_true k1];cases ht:tyG gs (nV t) with
   | nil=>
    rw[hz.2 ht]
    rfl
   | cons x r=>
    have hne:¬kD gs (nV t)=0:=fun e=>by
     have:=hz.1 e
     rw[ht] at this;cases this
    simp[hne]
  ·rw[if_neg k1,decide_eq_false k1]
   simp only[Bool.false_and,Bool.not_false,Bool.true_and];rw[Bool.eq_iff_iff,List.all_eq_true,List.all_eq_true]
   constructor
   ·intro h x hx
    rw[<-ih x (by have:=h1 x hx;rw[Bool.and_eq_true] at this;exact this.2)];exact h x hx
   ·intro h x hx
    rw[ih x (by have:=h1 x hx;rw[Bool.and_eq_true] at this;exact this.2)];exact h x hx
theorem gBp {n:Nat}{t:DataW Unit}(h:kU n t=0):jN n t=true:=by
 unfold kU at h
 split at h
 ·cases h
 ·split at h
  ·rename_i h2;exact h2
  ·cases h
theorem gNs {gs:List Grp}(hl:gs.length<=16):kB gs=gs.all (fun g=>jO g.2):=by
 unfold kB
 rw[decide_eq_true hl,Bool.true_and]
theorem k56{p:Prop}(h:p:=by
  clear HKN HGA;go_enter Tryz.func74,Tryz.ntmps74;(go_wp2_with fail);rw[HW1.out];refine HC.out.mono ?_;rintro e X ⟨rfl,hX⟩;have HEND:Hid (Below w.heap.size w X):=HBW.out X hX;clear hX;go_wp2;go_ret;exact⟨by rw[HRF.out];rfl,HEND.out⟩
  ):p:=h
theorem sW (n:Nat)(t:DataW Unit)(v:Value)(ga:Option Addr)(gl gc:Nat)(gs:List Grp)(w:World)(h:Ex w n t v)(hN:oG n t)(hc:cnt n t<=1152921504606846976)(hG:iS w ga gl gs) :
  Calls Tryz.prog 74 #[v,.slice ga gl gc] w fun e w' => e=.returned (.int .i64 (chk n t gs))/\Below w.heap.size w w' := by
 obtain⟨k,s,ka,kl,kc,rfl⟩:∃k s a len cap,v=.agg #[.int .i64 k,.string s,.slice a len cap]:=by
  exact k130
 obtain⟨w1,hw1⟩:∃w1,w1=w.alloc (.cells #[.int .i64 k,.string s,.slice ka kl kc] 69):=⟨_,rfl⟩
 have hB1:Below w.heap.size w w1:=by rw[hw1];exact(zzd _ w).alloc (zzb _) _
 have m0:w1.heap[w.heap.size]? = some (.cells #[.int .i64 k,.string s,.slice ka kl kc] 69 (0,0)):=by rw[hw1];exact World.alloc_heap_new w _
 have hlt1:w.heap.size<w1.heap.size:=(zza.1 m0).1
 have HK:Hid (∀X:World,Below w1.heap.size w1 X->X.cell? ⟨w.heap.size,0,none⟩=some (.int .i64 k)/\X.cell? ⟨w.heap.size,1,none⟩=some (.string s)/\X.cell? ⟨w.heap.size,2,none⟩=some (.slice ka kl kc)):=fun X hX=>by
  exact k157
 have HW1:Hid (w.alloc (.cells #[.int .i64 k,.string s,.slice ka kl kc] 69)=w1):=hw1.symm
 have HBW:Hid (∀X,Below w1.heap.size w1 X->Below w.heap.size w X):=fun X hX=>hB1.trans (hX.mono hB1.size)
 have HC:Hid (Calls Tryz.prog 109 #[.agg #[.int .i64 k,.string s,.slice ka kl kc]] w1 fun e w' => e=.returned (.int .i64 (kU n t))/\Below w1.heap.size w1 w'):=gBq n t _ w1 (Ex.below hB1 _ _ _ h) hc hN
 have HKN:Hid (∀X,Below w.heap.size w X->Calls Tryz.prog 110 #[.agg #[.int .i64 k,.string s,.slice ka kl kc],.slice ga gl gc] X fun e w' => e=.returned (.bool (knw gs n t))/\Below X.heap.size X w'):=fun X hX=>gOz w ga gl gc gs hG n t _ X h hX
 have HGA:Hid (∀i,i<gl->∃b o g a' len' cap', ga=some ⟨b,o,none⟩/\gs[i]? = some g/\kA w a' len' g.2/\∀W:World,Below w.heap.size w W->W.cell? ⟨b,o+i * 2,none⟩=some (.string g.1)/\W.cell? ⟨b,o+i * 2+1,none⟩=some (.slice a' len' cap')):=fun i hi=>by
  obtain⟨b,o,g,a', len', cap', e1,e2,e3,e4⟩:=hG.at hi;exact⟨b,o,g,a', len', cap', e1,e2,e3,e4⟩
 have HGL:Hid (gs.length=gl):=hG.1
 have hgi:(gl:Int)<=9223372036854775807:=by have:=hG.2.1;omega
 obtain⟨R,hR⟩:∃R,chk n t gs=R:=⟨_,rfl⟩
 rw[hR]
 have HR:Hid (chk n t gs=R):=hR
 obtain⟨f,hf⟩:∃f,kU n t=f:=⟨_,rfl⟩
 rw[hf] at HC
 have HF:Hid (kU n t=f):=hf
 obtain⟨q0,q1,q2⟩:=HK.out w1 (zzd _ _)
 clear h hN hc hG hB1 m0 hlt1 hw1 hR hf
 by_cases hf0:f≠0
 ·have e0:(f==0)=false:=by simpa using hf0
  have e1:(f != 0)=true:=by simp[bne,e0]
  have HRF:Hid (R=f):=by
   show _=_
   rw[<-HR.out];unfold chk;rw[if_neg (by rw[HF.out];exact hf0),HF.out]
  exact k56
 ·have hf0:f=0:=Classical.not_not.1 hf0
  subst hf0;have hb0:((0:Int) != 0)=false:=rfl
  have HRR:Hid (R=if kB gs=true then (if nmd gs n t=true then 0 else 6) else 1):=by
   show _=_
   rw[<-HR.out];unfold chk;rw[if_pos HF.out]
  by_cases hg16:16<gl
  ·have hd:decide ((16:Int)<(gl:Int))=true:=by simp;omega
   have hd' : decide (16<gl)=true:=by simp;omega
   have HRF:Hid (R=1):=by
    show _=_
    rw[HRR.out,if_neg];unfold kB;rw[decide_eq_false (by have:=HGL.out;omega)]
    simp
   exact k56
  ·have hd:decide ((16:Int)<(gl:Int))=false:=by simp;omega
   (have hd' : decide (16<gl)=false:=by simp;omega);have HRG:Hid (kB gs=gs.all (fun g=>jO g.2)):=gNs (by have:=HGL.out;omega)
   have HNO:Hid (∀(i:Nat) (g:Grp),gs[i]? = some g->jO g.2=false->R=1):=fun i g hi hg=>by
    rw[HRR.out,if_neg];rw[HRG.out,List.all_eq_true];intro hall
    have:=hall g (zzj hi)
    rw[hg] at this;cases this
   (have hgli:(gl:Int)<=16:=by omega);go_enter Tryz.func74,Tryz.ntmps74;(go_wp2_with fail);rw[HW1.out];refine HC.out.mono ?_;rintro e X ⟨rfl,hX⟩;obtain⟨p0,p1,p2⟩:=HK.out X hX;have HEND:Hid (Below w.heap.size w X):=HBW.out X hX;have HC1:=HKN.out X HEND.out;clear hX HC q0 q1 q2 HKN;go_wp2_with fail
   go_loop [6] (fun u=>∃i:Nat,i<=gl/\u=.int .i64 (i:Int)/\(gs.take i).all (fun g=>jO g.2)=true) (fun u=>gl - (intOf u).toNat)
   case atStart=>exact⟨0,zzn _,rfl,rfl⟩
   case round=>
    obtain⟨i,hi,rfl,hall⟩:=hrel
    by_cases hlt:i<gl
    ·obtain⟨b,o,g,a', len', cap', rfl,hg,hI,hcg⟩:=HGA.out i hlt
     obtain⟨c0,c1⟩:=hcg X HEND.out;(have hii:(i:Int)<(gl:Int):=by omega);(have hi0:(0:Int)<=(i:Int):=by omega);have hl2:=hI.1;(have hz2:(len' : Int)<=9223372036854775807:=by have:=hI.2.1;omega);have HN1:=HNO.out i g hg;have HNG:Hid (jO g.2=false->R=1):=HN1;obtain⟨nm,zs⟩:=g;simp only at hI hl2 c0 HNG
     have HS:Hid ((gs.take (i+1)).all (fun g=>jO g.2)=jO zs):=by
      show _=_
      rw[sK hg,hall,Bool.true_and]
     have HII:Hid (∀k,k<len' -> ∃b o x,a' = some ⟨b,o,none⟩/\zs[k]? = some x/\X.cell? ⟨b,o+k,none⟩=some (.int .i64 x)):=fun k hk=>by
      obtain⟨b,o,x,e1,e2,e3⟩:=hI.at hk;exact⟨b,o,x,e1,e2,e3 X HEND.out⟩
     have HL2:Hid (zs.length=len'):=hl2;clear HN1 hall hg hI hcg hl2
     by_cases h16:16<len'
     ·have hd2:decide ((16:Int)<(len' : Int))=true:=by simp;omega
      (have hd2' : decide (16<len')=true:=by simp;omega);have HRF:Hid (R=1):=HNG.out (by unfold jO;rw[decide_eq_false (by have:=HL2.out;omega)];rfl);go_wp2;go_ret;exact⟨by rw[HRF.out];rfl,HEND.out⟩
     ·have hd2:decide ((16:Int)<(len' : Int))=false:=by simp;omega
      have hd2' : decide (16<len')=false:=by simp;omega
      have HRT:Hid (jO zs=zs.all qM):=by
       show _=_
       unfold jO;rw[decide_eq_true (by have:=HL2.out;omega),Bool.true_and]
      (have hlen16:(len' : Int)<=16:=by omega);go_wp2_with fail
      go_loop [7] (fun u=>∃j:Nat,j<=len' /\ u=.int .i64 (j:Int)/\(zs.take j).all qM=true) (fun u=>len' - (intOf u).toNat)
      case atStart=>exact⟨0,zzn _,rfl,rfl⟩
      case round=>
       obtain⟨j,hj,rfl,hallj⟩:=hrel
       by_cases hltj:j<len'
       ·obtain⟨b2,o2,x,rfl,hx,cx⟩:=HII.out j hltj
        (have hji:(j:Int)<(len' : Int):=by omega);have hj0:(0:Int)<=(j:Int):=by omega
        have HSJ:Hid ((zs.take (j+1)).all qM=qM x):=by
         show _=_
         rw[sK hx,hallj,Bool.true_and]
        have HNJ:Hid (qM x=false->R=1):=fun e=>HNG.out (by
         rw[HRT.out,<-List.take_append_drop (j+1) zs,List.all_append,HSJ.out,e,Bool.false_and])
        clear hallj hx
        by_cases hx0:x<0
        ·have HRF:Hid (R=1):=HNJ.out (by unfold qM;simp;omega)
         (have e1:decide (x<0)=true:=by simp;omega);go_wp2;go_ret;exact⟨by rw[HRF.out];rfl,HEND.out⟩
        ·have e1:decide (x<0)=false:=by simp;omega
         by_cases hx16:16<=x
         ·have HRF:Hid (R=1):=HNJ.out (by unfold qM;simp;omega)
          (have e2:decide (16<=x)=true:=by simp;omega);go_wp2;go_ret;exact⟨by rw[HRF.out];rfl,HEND.out⟩
         ·have e2:decide (16<=x)=false:=by simp;omega
          (have HOK:Hid (qM x=true):=by show _=_;unfold qM;simp;omega);go_wp2_with fail
          go_round
          case rel=>exact⟨j+1,oo,by first | rfl | go_num,by rw[HSJ.out];exact HOK.out⟩
          case measure=>simp[intOf];omega
       ·obtain rfl:j=len' := by omega
        have HOK:Hid ((gs.take (i+1)).all (fun g=>jO g.2)=true):=by
         show _=_
         rw[HS.out,HRT.out,<-hallj,zzm (Nat.le_of_eq HL2.out)]
        clear hallj;go_wp2_with fail
        go_round
        case rel=>exact⟨i+1,oo,by first | rfl | go_num,HOK.out⟩
        case measure=>simp[intOf];omega
    ·obtain rfl:i=gl:=by omega
     have HRT:Hid (kB gs=true):=by
      show _=_
      rw[HRG.out,<-hall,zzm (Nat.le_of_eq HGL.out)]
     have HRV:Hid (R=if knw gs n t=true then 0 else 6):=by
      show _=_
      rw[HRR.out,if_pos HRT.out,hEu HRT.out n t (gBp HF.out)]
     (have HXB:Hid (∀Y,Below X.heap.size X Y->Below w.heap.size w Y):=fun Y hY=>HEND.out.trans (hY.mono HEND.out.size));generalize knw gs n t=B at *;clear hall;(go_wp2_with fail);refine HC1.mono ?_;rintro e Y ⟨rfl,hY⟩;have HE2:Hid (Below w.heap.size w Y):=HXB.out Y hY;clear HC1 hY;cases B with
     | true=>
      go_wp2;go_ret;exact⟨by rw[HRV.out];rfl,HE2.out⟩
     | false=>
      go_wp2;go_ret;exact⟨by rw[HRV.out];rfl,HE2.out⟩
end Go.Proofs.YtjkebndkeamijaaGreatDoor
