/-
  PROVED HERE: what the texts DALay4, DALay5, DAPCheck say.
-/
import Derived.Test.YtjkebndkeamijaaGreatDoorCA1
set_option maxRecDepth 100000
set_option maxHeartbeats 2000000
namespace Go.Proofs.YtjkebndkeamijaaGreatDoor
open Go.RowKit
theorem gQ:(∀(a:Act) (d:Tmp) (v:Value),Act.put a (some d) v={ a with tmps:=a.tmps.setIfInBounds d v })/\(∀(a:Act) (v:Value),Act.put a none v=a)/\(∀(l:List Value) (i:Nat) (v:Value),l.toArray.setIfInBounds i v=(l.set i v).toArray)/\(∀(x v:Value) (l:List Value),(x::l).set 0 v=v::l)/\(∀(x v:Value) (l:List Value) (i:Nat),(x::l).set (i+1) v=x::l.set i v) :=
 ⟨fun _ _ _=>rfl,fun _ _=>rfl,fun _ _ _=>List.setIfInBounds_toArray ..,fun _ _ _=>rfl,fun _ _ _ _=>rfl⟩
theorem jQ {P:Program} {md:Region.Mode} {ops:Array Oper} {Q:Exit->Act->World->Prop} {S:World->Prop} {fuel:Nat} {listed:Array Bool} {a:Act} {w:World} (i:Nat) (d:Option Tmp) {oi:Oper} {v:Value} (hS:S w) (hy:∀w,S w->(execOp a.eval oi).run P w=.ok (.value v) w) (h:wpAnyH P md ops Q S fuel (listed.setIfInBounds i true) (a.put d v) w) (hi:ops[i]? = some oi:=by rfl) (hd:oi.dst=d:=by rfl) (hs:Region.noSelect ops=true:=by kernel_rfl) (hf:Region.free md ops listed i=true:=by kernel_rfl) (hr:(Region.ready md ops listed).contains i=true:=by kernel_rfl) (hQ:∀c a w,Q (.panic c) (a.put d v) w->Q (.panic c) a w:=by exact fun _ _ _ h=>h) (hw:Region.wanted oi (yielded ops a.tmps)=true:=by rfl):wpAnyH P md ops Q S (fuel+1) listed a w :=
 nJ i d hi hd hs hf hr hQ (Or.inl ⟨hw,hy⟩) hS h
theorem gA {P:Program} {md:Region.Mode} {ops:Array Oper} {Q:Exit->Act->World->Prop} {S:World->Prop} {fuel:Nat} {listed:Array Bool} {a:Act} {w:World} (i:Nat) (d:Option Tmp) {oi:Oper} {v:Value} (hS:S w) {a' : Act} (h:wpAnyH P md ops Q S fuel (listed.setIfInBounds i true) a' w) (hi:ops[i]? = some oi:=by rfl) (hy:∀w,S w->(execOp a.eval oi).run P w=.ok (.value v) w:=by intro w hSw;(try go_simp);with_reducible rfl) (ha:a.put d v=a' := by conv=>lhs;simp only[gQ]) (hd:oi.dst=d:=by rfl) (hs:Region.noSelect ops=true:=by kernel_rfl) (hf:Region.free md ops listed i=true:=by kernel_rfl) (hr:(Region.ready md ops listed).contains i=true:=by kernel_rfl) (hQ:∀c a w,Q (.panic c) (a.put d v) w->Q (.panic c) a w:=by exact fun _ _ _ h=>h) (hw:Region.wanted oi (yielded ops a.tmps)=true:=by rfl):wpAnyH P md ops Q S (fuel+1) listed a w :=
 nJ i d hi hd hs hf hr hQ (Or.inl ⟨hw,hy⟩) hS (ha▸h)
def rb (n:Nat)(t:DataW Unit)(d room:Int):Int:=if d+dp n t<=61/\cnt n t<=room then room - cnt n t else -1
def rbj (n:Nat)(ts:List (DataW Unit))(d room:Int):Int:=if d+iK (dp n) ts<=60/\iX (cnt n) ts<=room - 1 then room - 1 - iX (cnt n) ts else -1
theorem gZx (n:Nat)(d room:Int)(hd:d<=60)(hr:0<=room):rbj n [] d room=room - 1:=by
 have h1:iK (dp n) []=0:=rfl
 have h2:iX (cnt n) []=0:=rfl
 unfold rbj
 generalize iK (dp n) []=G at *
 generalize iX (cnt n) []=A at *
 by_cases h:d+G<=60/\A<=room - 1
 ·rw[if_pos h];omega
 ·rw[if_neg h];omega
theorem gZy {n:Nat}{ts:List (DataW Unit)}{j:Nat}{x:DataW Unit}(h:ts[j]? = some x)(d room:Int)(h0:0<=rbj n (ts.take j) d room):rbj n (ts.take (j+1)) d room=rb n x (d+1) (rbj n (ts.take j) d room):=by
 have h1:=gFd (f:=cnt n) h
 have h2:=zF (f:=dp n) h (gJn n)
 have h3:=pN n x
 unfold rbj at h0 ⊢
 rw[h1,h2]
 generalize iX (cnt n) (ts.take j)=A at *
 generalize iK (dp n) (ts.take j)=G at *
 unfold rb
 generalize cnt n x=c at *
 generalize dp n x=e at *
 split at h0
 ·rename_i hA
  rw[if_pos hA]
  by_cases hB:d+max G e<=60/\A+c<=room - 1
  ·rw[if_pos hB,if_pos oo]
   omega
  ·rw[if_neg hB,if_neg oo]
 ·omega
theorem hEd {n:Nat}{ts:List (DataW Unit)}{j:Nat}(d room:Int)(h0:¬0<=rbj n (ts.take j) d room):rbj n ts d room = -1:=by
 unfold rbj at *
 refine if_neg fun hc=>h0 ?_
 have h1:=gFe (pN n) ts j
 have h2:iK (dp n) (ts.take j)<=iK (dp n) ts:=by
  clear h0 hc h1
  induction ts generalizing j with
  | nil=>simp
  | cons x r ih=>
   cases j with
   | zero=>exact nR _ _
   | succ j=>
    rw[List.take_succ_cons,iK,iK]
    have:=ih (j:=j)
    omega
 rw[if_pos ⟨oo,oo⟩]
 omega
theorem hEe (n:Nat)(k:Int)(s:ByteArray)(ts:List (DataW Unit))(d room:Int):rb (n+1) (node k s ts) d room=rbj n ts d room:=by
 unfold rb rbj
 rw[cnt,dp,iC]
 generalize iX (cnt n) ts=A
 generalize iK (dp n) ts=G
 by_cases h:d+G<=60/\A<=room - 1
 ·rw[if_pos h,if_pos oo]
  omega
 ·rw[if_neg h,if_neg oo]
theorem gNv (n:Nat)(t:DataW Unit)(d room:Int) : -1<=rb n t d room/\rb n t d room<=max room (-1):=by
 have:=pN n t
 unfold rb
 split<;>omega
theorem gIp (n:Nat)(ts:List (DataW Unit))(d room:Int) : -1<=rbj n ts d room/\rbj n ts d room<=max room (-1):=by
 have:=oT (pN n) ts
 unfold rbj
 split<;>omega
theorem gRm:∀(n:Nat) (t:DataW Unit) (v:Value) (w:World) (d room:Int),Ex w n t v->0<=room->room<=200->1<=d->d<=61 →
  Calls Tryz.prog 161 #[v,.int .i64 d,.int .i64 room] w fun e w' => e=.returned (.int .i64 (rb n t d room))/\Below w.heap.size w w' := by
 intro n
 induction n with
 | zero=>intro t v w d room h;exact h.elim
 | succ n ih=>
  intro t v w d room h hr0 hr1 hd0 hd1;obtain⟨k,s,a,len,cap,ts,rfl,rfl,hl,hz,hk⟩:=h;rw[hEe];have HB0:Hid (∀o,Below w.heap.size w (w.alloc o)):=fun o=>(zzd _ w).alloc (zzb _) _
  by_cases hd:d<=60
  ·have hall:Hid (rbj n (ts.take len) d room=rbj n ts d room):=by show _=_;rw[zzm (Nat.le_of_eq hl)]
   obtain⟨R,hR⟩:∃R,rbj n ts d room=R:=⟨_,rfl⟩;rw[hR];have HR:Hid (rbj n ts d room=R):=hR;have hz0:Hid (rbj n [] d room=room - 1):=gZx n d room hd hr0;(have hnd:¬(60<d):=by omega);clear hR;go_enter Tryz.func161,Tryz.ntmps161;go_wp2
   go_loopw [2,7] (fun u i w' => ∃j:Nat,j<=len/\i=.int .i64 (j:Int)/\u=.int .i64 (rbj n (ts.take j) d room)/\Below (w.alloc (.cells #[.int .i64 k,.string s,.slice a len cap] 69)).heap.size (w.alloc (.cells #[.int .i64 k,.string s,.slice a len cap] 69)) w') (fun _ i _=>len - (intOf i).toNat)
   case atStart=>exact⟨0,oo,rfl,by rw[List.take_zero,hz0.out],zzd _ _⟩
   case round=>
    obtain⟨i,hi,rfl,rfl,hB⟩:=hrel;obtain⟨-,-,b0,hBw⟩:=lT hB
    by_cases hlt:i<len
    ·by_cases hz1:0<=rbj n (ts.take i) d room
     ·obtain⟨b,o,x,kx,sx,ax,lx,cx,rfl,_,hx,hcx⟩:=pM hl hk hlt
      obtain⟨p0,p1,p2,p3⟩:=hcx wr hBw;have hst:=gZy hx d room hz1;have HS:Hid (rbj n (ts.take (i+1)) d room=rb n x (d+1) (rbj n (ts.take i) d room)):=hst;have hr:=gIp n (ts.take i) d room;have HC:=ih x _ wr (d+1) (rbj n (ts.take i) d room) p3 hz1 oo oo oo;have hr2:=gNv n x (d+1) (rbj n (ts.take i) d room);clear hcx hk p3 hst hx ih;generalize rb n x (d+1) (rbj n (ts.take i) d room)=y at *;generalize rbj n (ts.take i) d room=z at *;(have hzz:decide (0<=z)=true:=by simpa using hz1);(go_wp2_with fail);refine HC.mono ?_;rintro e W1 ⟨rfl,hB1⟩;go_wp2
      go_roundw
      case rel=>exact⟨i+1,oo,rfl,by rw[HS.out],hB.trans (hB1.mono hB.size)⟩
      case measure=>simp[intOf];omega
     ·have hneg:=hEd d room hz1
      rw[HR.out] at hneg;have hr:=gIp n (ts.take i) d room;(have HE:Hid (rbj n (ts.take i) d room=R):=by show _=_;rw[hneg];omega);generalize rbj n (ts.take i) d room=z at *;(have hzz:decide (0<=z)=false:=by simpa using hz1);clear hk ih hneg;go_wp2;go_ret;exact⟨by rw[HE.out];rfl,hBw⟩
    ·obtain rfl:i=len:=by omega
     rw[hall.out,HR.out];clear hk ih;go_wp2;go_ret;exact⟨rfl,hBw⟩
  ·rw[show rbj n ts d room = -1 from by
    unfold rbj
    have:=nR (dp n) ts
    rw[if_neg oo]]
   (have hnd:(60:Int)<d:=by omega);clear hk ih;go_enter Tryz.func161,Tryz.ntmps161;go_wp2;go_ret;exact⟨rfl,HB0.out _⟩
def gCp (s:ByteArray):Nat:=((bts s).takeWhile gH).length
theorem yG {p:UInt8->Bool}:∀(l:List UInt8) (j:Nat),j<=l.length->(l.take j).all p=true->(∀c,l[j]? = some c->p c=false)->(l.takeWhile p).length=j:=by
 intro l
 induction l with
 | nil=>intro j h _ _;simp at h;simp[h]
 | cons c r ih=>
  intro j hj ha hc;cases j with
  | zero=>rw[List.takeWhile_cons,hc c rfl];rfl
  | succ j=>
   rw[List.take_succ_cons,List.all_cons,Bool.and_eq_true] at ha;rw[List.takeWhile_cons,ha.1,if_pos rfl,List.length_cons,ih j (by simpa using hj) ha.2 (fun d hd=>hc d (by simpa using hd))]
theorem oH (c:UInt8):pL (c.toNat:Int)=gH c:=by
 unfold pL gH
 rw[Bool.eq_iff_iff]
 simp
 omega
theorem zB (s:ByteArray)(w:World)(hs:s.size<=9223372036854775807):Calls Tryz.prog 178 #[.string s] w fun e w' => e=.returned (.int .i64 (gCp s:Int))/\w' = w:=by
 obtain⟨R,hR⟩:∃R,gCp s=R:=⟨_,rfl⟩
 rw[hR]
 have HR:Hid (gCp s=R):=hR
 clear hR
 have HL:Hid (∀c W,Calls Tryz.prog 187 #[.int .u8 c] W fun r w' => r=.returned (.bool (pL c))/\w' = W):=fun c W=>tC c W
 go_enter Tryz.func178,Tryz.ntmps178
 go_wp2
 go_loop [3] (fun u=>∃j:Nat,j<=s.size/\u=.int .i64 (j:Int)/\(s.toList.take j).all gH=true) (fun u=>s.size - (intOf u).toNat)
 case atStart=>exact⟨0,oo,rfl,rfl⟩
 case round=>
  obtain⟨i,hi,rfl,hT⟩:=hrel
  by_cases hlt:i<s.size
  ·have hat:=gQf hlt
   rw[hT,Bool.true_and] at hat;have hlc:=oH (s[i]'hlt);cases hc:gH (s[i]'hlt) with
   | true=>
    rw[hc] at hat hlc;have HT:Hid ((s.toList.take (i+1)).all gH=true):=hat
    have HLc:Hid (∀W,Calls Tryz.prog 187 #[.int .u8 ((s[i]'hlt).toNat:Int)] W fun r w' => r=.returned (.bool true)/\w' = W):=by
     intro W
     have:=HL.out ((s[i]'hlt).toNat:Int) W
     rwa [hlc] at this
    clear hat hT hc hlc;(go_wp2_with fail);refine(HLc.out _).mono ?_;rintro e W ⟨rfl,hW⟩;rw[hW];go_wp2
    go_round
    case rel=>exact⟨i+1,oo,rfl,HT.out⟩
    case measure=>simp[intOf];omega
   | false=>
    rw[hc] at hlc
    have HF:Hid (R=i):=by
     show R=i
     rw[<-HR.out];unfold gCp;rw[kV] at hT;refine yG _ i ?_ hT fun c hcc=>?_
     ·rw[<-kV,kZ];omega
     ·rw[<-kV,pU s i hlt] at hcc
      cases hcc;exact hc
    have HLc:Hid (∀W,Calls Tryz.prog 187 #[.int .u8 ((s[i]'hlt).toNat:Int)] W fun r w' => r=.returned (.bool false)/\w' = W):=by
     intro W
     have:=HL.out ((s[i]'hlt).toNat:Int) W
     rwa [hlc] at this
    clear hat hT hc hlc;(go_wp2_with fail);refine(HLc.out _).mono ?_;rintro e W ⟨rfl,hW⟩;rw[hW];go_wp2;go_ret;exact⟨by rw[HF.out];rfl,rfl⟩
  ·obtain rfl:i=s.size:=by omega
   have HF:Hid (R=s.size):=by
    show R=_
    rw[<-HR.out];unfold gCp;rw[kV] at hT;refine yG _ s.size ?_ hT fun c hcc=>?_
    ·rw[<-kV,kZ];omega
    ·rw[List.getElem?_eq_none (by rw[<-kV,kZ];omega)] at hcc
     cases hcc
   clear hT;go_wp2;go_ret;exact⟨by rw[HF.out];rfl,rfl⟩
theorem gVf {p:UInt8->Bool}:∀l:List UInt8,(l.takeWhile p).length=l.length↔l.all p=true:=by
 intro l
 induction l with
 | nil=>simp
 | cons c r ih=>
  rw[List.takeWhile_cons,List.all_cons];cases p c with
  | true=>simp[ih]
  | false=>simp
theorem gLf (s:ByteArray):jJ s=(!s.toList.isEmpty&&((gCp s:Int)==(s.size:Int))):=by
 unfold jJ gCp
 rw[kV]
 have hl:(bts s).length=s.size:=by rw[<-kV,kZ]
 have hw:=gVf (p:=gH) (bts s)
 rw[hl] at hw
 have h2:(((((bts s).takeWhile gH).length:Nat):Int)==(s.size:Int))=(bts s).all gH:=by
  rw[Bool.eq_iff_iff,beq_iff_eq,<-hw];omega
 rw[h2,Bool.and_comm]
theorem gLm (s:ByteArray)(w:World)(hs:s.size<=9223372036854775807):Calls Tryz.prog 169 #[.string s] w fun e w' => e=.returned (.bool (jJ s))/\w' = w:=by
 rw[gLf]
 have HN:Hid (∀W,Calls Tryz.prog 178 #[.string s] W fun e w' => e=.returned (.int .i64 (gCp s:Int))/\w' = W):=fun W=>zB s W hs
 generalize (gCp s:Int)=L at *
 cases he:s.toList.isEmpty with
 | true=>
  go_enter Tryz.func169,Tryz.ntmps169;go_wp2;go_ret;exact⟨rfl,rfl⟩
 | false=>
  go_enter Tryz.func169,Tryz.ntmps169;(go_wp2_with fail);refine(HN.out _).mono ?_;rintro e W ⟨rfl,hW⟩;rw[hW];go_wp2;go_ret;exact⟨rfl,rfl⟩
end Go.Proofs.YtjkebndkeamijaaGreatDoor
