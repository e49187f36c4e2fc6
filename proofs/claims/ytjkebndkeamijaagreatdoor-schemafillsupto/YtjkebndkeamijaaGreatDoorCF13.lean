/-
  PROVED HERE: what the texts DFGrp, DFArgs, DFTyp, DFNmd, DFPlan say.
-/
import Derived.Test.YtjkebndkeamijaaGreatDoorCF10
import Derived.Test.YtjkebndkeamijaaGreatDoorRows
import Derived.Deep.Slices
import Derived.ChangeSlices
import Derived.SizedLaws
import Derived.RangeFuncBox
set_option maxRecDepth 100000
set_option maxHeartbeats 2000000
namespace Go.Proofs.YtjkebndkeamijaaGreatDoor
open Go.RowKit
def Ints (w:World)(a:Option Addr)(len:Nat)(zs:List Int):Prop :=
 zs.length=len/\len<=9223372036854775807/\(len=0\/∃b o,a=some ⟨b,o,none⟩/\b<w.heap.size/\∀i x,zs[i]? = some x->w.cell? ⟨b,o+i,none⟩=some (.int .i64 x))
theorem Ints.below {w w' : World}{a:Option Addr}{len:Nat}{zs:List Int}(h:Ints w a len zs)(hb:Below w.heap.size w w'):Ints w' a len zs:=by
 obtain⟨h1,h2,h3⟩:=h
 refine⟨h1,h2,?_⟩
 rcases h3 with h3 | ⟨b,o,rfl,hlt,hc⟩
 ·exact .inl h3
 ·exact .inr ⟨b,o,rfl,zzl hlt hb.size,fun i x hx=>(hb.cell (p:=⟨b,o+i,none⟩) hlt).trans (hc i x hx)⟩
theorem Ints.at {w:World}{a:Option Addr}{len:Nat}{zs:List Int}(h:Ints w a len zs){i:Nat}(hi:i<len):∃b o x,a=some ⟨b,o,none⟩/\zs[i]? = some x/\∀W:World,Below w.heap.size w W->W.cell? ⟨b,o+i,none⟩=some (.int .i64 x):=by
 obtain⟨h1,_,h3⟩:=h
 rcases h3 with h3 | ⟨b,o,rfl,hlt,hc⟩
 ·omega
 ·have hx:zs[i]? = some (zs[i]'(by omega)):=zze oo
  exact⟨b,o,_,rfl,hx,fun W hb=>(hb.cell (p:=⟨b,o+i,none⟩) hlt).trans (hc i _ hx)⟩
abbrev Grp:Type:=ByteArray×List Int
def Groups (w:World)(a:Option Addr)(len:Nat)(gs:List Grp):Prop :=
 gs.length=len/\len<=9223372036854775807/\(len=0\/∃b o,a=some ⟨b,o,none⟩/\b<w.heap.size/\∀i g,gs[i]? = some g->∃a' len' cap',
  w.cell? ⟨b,o+i * 2,none⟩=some (.string g.1)/\w.cell? ⟨b,o+i * 2+1,none⟩=some (.slice a' len' cap')/\Ints w a' len' g.2)
theorem Groups.below {w w' : World}{a:Option Addr}{len:Nat}{gs:List Grp}(h:Groups w a len gs)(hb:Below w.heap.size w w'):Groups w' a len gs:=by
 obtain⟨h1,h2,h3⟩:=h
 refine⟨h1,h2,?_⟩
 rcases h3 with h3 | ⟨b,o,rfl,hlt,hc⟩
 ·exact .inl h3
 ·refine .inr ⟨b,o,rfl,zzl hlt hb.size,fun i g hg=>?_⟩
  obtain⟨a', len', cap', c0,c1,c2⟩:=hc i g hg;exact⟨a', len', cap', (hb.cell (p:=⟨b,_,none⟩) hlt).trans c0,(hb.cell (p:=⟨b,_,none⟩) hlt).trans c1,c2.below hb⟩
theorem Groups.at {w:World}{a:Option Addr}{len:Nat}{gs:List Grp}(h:Groups w a len gs){i:Nat}(hi:i<len):∃b o g a' len' cap', a=some ⟨b,o,none⟩/\gs[i]? = some g/\Ints w a' len' g.2/\∀W:World,Below w.heap.size w W →
  W.cell? ⟨b,o+i * 2,none⟩=some (.string g.1)/\W.cell? ⟨b,o+i * 2+1,none⟩=some (.slice a' len' cap'):=by
 obtain⟨h1,_,h3⟩:=h
 rcases h3 with h3 | ⟨b,o,rfl,hlt,hc⟩
 ·omega
 ·have hx:gs[i]? = some (gs[i]'(by omega)):=zze oo
  obtain⟨a', len', cap', c0,c1,c2⟩:=hc i _ hx;exact⟨b,o,_,a', len', cap', rfl,hx,c2,fun W hb=>⟨(hb.cell (p:=⟨b,_,none⟩) hlt).trans c0,(hb.cell (p:=⟨b,_,none⟩) hlt).trans c1⟩⟩
def isTy (t:Int):Bool:=decide (0<=t)&&decide (t<16)
theorem k103{p:Prop}(h:p:=by
  go_enter Tryz.func163,Tryz.ntmps163;go_wp2;go_ret;exact⟨by first | rfl | simp[h1],rfl⟩
  ):p:=h
theorem istype_calls (t:Int)(w:World):Calls Tryz.prog 163 #[.int .i64 t] w fun e w' => e=.returned (.bool (isTy t))/\w' = w:=by
 unfold isTy
 by_cases h1:0<=t
 ·exact k103
 ·have h2:decide (0<=t)=false:=by simpa using h1
  exact k103
def rightTs (l:List Int):Bool:=decide (l.length<=16)&&l.all isTy
def rightG (gs:List Grp):Bool:=decide (gs.length<=16)&&gs.all (fun g=>rightTs g.2)
theorem allI_step {α:Type}{p:α->Bool}{ts:List α}{i:Nat}{x:α}(h:ts[i]? = some x):(ts.take (i+1)).all p=((ts.take i).all p&&p x):=by
 rw[List.take_add_one,h,List.all_append]
 simp
theorem allI_not {α:Type}{p:α->Bool}{ts:List α}{i:Nat}{x:α}(h:ts[i]? = some x)(hp:p x=false):ts.all p=false:=by
 exact k96
theorem rightgroups_calls (a:Option Addr)(len cap:Nat)(gs:List Grp)(w:World)(h:Groups w a len gs) :
  Calls Tryz.prog 144 #[.slice a len cap] w fun e w' => e=.returned (.bool (rightG gs))/\Below w.heap.size w w' := by
 obtain⟨hl,hz,_⟩:=id h
 obtain⟨R,hR⟩:∃R,rightG gs=R:=⟨_,rfl⟩
 rw[hR]
 have HR:Hid (rightG gs=R):=hR
 clear hR
 have HT:Hid (∀t W,Calls Tryz.prog 163 #[.int .i64 t] W fun e w' => e=.returned (.bool (isTy t))/\w' = W):=fun t W=>istype_calls t W
 by_cases hlen:len<=16
 ·have hn:¬((16:Int)<(len:Int)):=by omega
  go_enter Tryz.func144,Tryz.ntmps144;go_wp2
  go_loopw [12] (fun i w' => ∃j:Nat,j<=len/\i=.int .i64 (j:Int)/\(gs.take j).all (fun g=>rightTs g.2)=true/\Below w.heap.size w w') (fun i _=>len - (intOf i).toNat)
  case atStart=>exact⟨0,oo,rfl,rfl,zzd _ _⟩
  case round=>
   obtain⟨i,hi,rfl,hT,hB⟩:=hrel
   by_cases hlt:i<len
   ·obtain⟨b,o,g,a', len', cap', rfl,hg,hI,hc⟩:=h.at hlt
    obtain⟨c0,c1⟩:=hc wr hB;obtain⟨hl2,hz2,_⟩:=id hI;have hst:(gs.take (i+1)).all (fun g=>rightTs g.2)=rightTs g.2:=by rw[allI_step hg,hT,Bool.true_and]
    have hno:rightTs g.2=false->R=false:=fun e=>by
     rw[<-HR.out];unfold rightG;rw[allI_not hg e,Bool.and_false]
    have HST:Hid ((gs.take (i+1)).all (fun g=>rightTs g.2)=rightTs g.2):=hst;have HNO:Hid (rightTs g.2=false->R=false):=hno;obtain⟨nm,zs⟩:=g;simp only at hI hl2 HST HNO c0;have HB0:Hid (∀o,Below w.heap.size w (wr.alloc o)):=fun o=>hB.alloc hB.size o
    have hBI:Hid (∀W,Below w.heap.size w W->∀i,i<len' -> ∃b o x,a' = some ⟨b,o,none⟩/\zs[i]? = some x/\W.cell? ⟨b,o+i,none⟩=some (.int .i64 x)):=fun W hW i hi=>by
     obtain⟨b,o,x,h1,h2,h3⟩:=hI.at hi;exact⟨b,o,x,h1,h2,h3 W hW⟩
    clear hc hI hst hno hg hT
    by_cases hlen2:len' <= 16
    ·have hn2:¬((16:Int)<(len' : Int)):=by omega
     go_wp2
     go_loopw [23] (fun i2 w' => ∃j:Nat,j<=len' /\ i2=.int .i64 (j:Int)/\(zs.take j).all isTy=true/\w' = (wr.alloc (.cells #[.string nm,.slice a' len' cap'] 63))) (fun i2 _=>len' - (intOf i2).toNat)
     case atStart=>exact⟨0,oo,rfl,rfl,rfl⟩
     case round=>
      obtain⟨j,hj,rfl,hT2,rfl⟩:=hrel
      by_cases hlt2:j<len'
      ·obtain⟨b2,o2,x,rfl,hx,hc2⟩:=hBI.out (wr.alloc (.cells #[.string nm,.slice a' len' cap'] 63)) (HB0.out _) j hlt2
       (have HS2:Hid ((zs.take (j+1)).all isTy=isTy x):=by show _=_;rw[allI_step hx,hT2,Bool.true_and]);(have HN2:Hid (isTy x=false->R=false):=fun e=>HNO.out (by unfold rightTs;rw[allI_not hx e,Bool.and_false]));(have HTx:=fun W=>HT.out x W);clear hx hT2;generalize isTy x=q at *;cases q with
       | true=>
        (go_wp2_with fail);refine(HTx _).mono ?_;rintro e W ⟨rfl,hW⟩;rw[hW];go_wp2
        go_roundw
        case rel=>exact⟨j+1,oo,rfl,HS2.out,by first | rfl | trivial⟩
        case measure=>simp[intOf];omega
       | false=>
        have HF:Hid (R=false):=HN2.out rfl;clear HN2;(go_wp2_with fail);refine(HTx _).mono ?_;rintro e W ⟨rfl,hW⟩;rw[hW];go_wp2;go_ret;exact⟨by rw[HF.out];rfl,HB0.out _⟩
      ·obtain rfl:j=len' := by omega
       have HF:Hid (rightTs zs=true):=by
        show _=_
        rw[zzm (Nat.le_of_eq hl2)] at hT2;unfold rightTs;rw[hT2,hl2];simpa using hlen2
       clear hT2;go_wp2
       go_roundw
       case rel=>exact⟨i+1,oo,rfl,by rw[HST.out,HF.out],HB0.out _⟩
       case measure=>simp[intOf];omega
    ·have hn2:(16:Int)<(len' : Int):=by omega
     have HF:Hid (R=false):=HNO.out (by unfold rightTs;rw[hl2];simp;omega);go_wp2;go_ret;exact⟨by rw[HF.out];rfl,HB0.out _⟩
   ·obtain rfl:i=len:=by omega
    have HF:Hid (R=true):=by
     show _=_
     rw[<-HR.out];rw[zzm (Nat.le_of_eq hl)] at hT;unfold rightG;rw[hT,hl];simpa using hlen
    clear hT h;go_wp2;go_ret;exact⟨by rw[HF.out];rfl,hB⟩
 ·have hn:(16:Int)<(len:Int):=by omega
  have HF:Hid (R=false):=by
   show _=_
   rw[<-HR.out];unfold rightG;rw[hl]
   simp
   omega
  clear h;go_enter Tryz.func144,Tryz.ntmps144;go_wp2;go_ret;exact⟨by rw[HF.out];rfl,zzd _ _⟩
end Go.Proofs.YtjkebndkeamijaaGreatDoor
namespace Go.Proofs.YtjkebndkeamijaaGreatDoor
open Go.ChangeShapes Go.WideShapes Go.ChangeAt Go.RowKit
theorem add_none (b o i:Nat):(⟨b,o,none⟩:Addr).add i=⟨b,o+i,none⟩:=by unfold Addr.add;split<;>simp_all
theorem open_intsF {H:Type}{enc:TypeId×Value->H}{W:World}{sp:Nat->Bool}{hd:Bool}{fuel:Nat}{cs:List Value}{x:DataW H×List MemPlace}(h:DataW.trod enc Tryz.prog W 0 sp hd fuel 61 cs=some x):∃a len cap zs,cs=[.slice a len cap]/\Ints W a len zs:=by
 rcases open_ints Tryz.underlying61 Tryz.underlying3 kr h with ⟨hcs,hx⟩ | ⟨y,l,c,zs,hcs,_,hl,hm,hz,hx,hcell,hwz⟩
 ·exact⟨none,0,0,[],hcs,rfl,oo,.inl rfl⟩
 ·have hlz:l<=zs.length:=by rw[hz];split<;>omega
  refine⟨some y,l,c,zs.take l,hcs,by rw[List.length_take];omega,by unfold maxLen at hm;omega,?_⟩;rcases Nat.eq_zero_or_pos l with h0 | h0
  ·exact .inl h0
  ·obtain⟨b,o,sp⟩:=y
   have hc0:=hcell 0 oo;(have hspot:sp=none:=by simpa [Addr.add] using World.cell?_spot hc0);subst hspot;refine .inr ⟨b,o,rfl,?_,fun i z hz=>?_⟩
   ·rw[add_none] at hc0
    rcases Nat.lt_or_ge b W.heap.size with hlt | hge
    ·exact hlt
    ·simp[World.cell?,Array.getElem?_eq_none hge] at hc0
   ·have hi:i<l:=by
     have:=(zzc.1 hz).1
     rw[List.length_take] at this;omega
    have:=hcell i oo
    rw[add_none] at this;rw[this];rw[List.getElem?_take,if_pos hi] at hz;simp[List.getD_eq_getElem?_getD,hz]
theorem own:ownKnob Tryz.prog.godebug=none:=by kernel_rfl
theorem laidOut:laidOutB Tryz.prog=true:=by kernel_rfl
end Go.Proofs.YtjkebndkeamijaaGreatDoor
namespace Go.Proofs.YtjkebndkeamijaaGreatDoor
open Go.RowKit
def maskOf (l:List Int):Nat:=l.foldl (fun m t=>m ||| 2 ^ t.toNat) 0
theorem maskOf_snoc (l:List Int)(t:Int):maskOf (l++[t])=maskOf l ||| 2 ^ t.toNat:=by unfold maskOf;rw[List.foldl_append];rfl
theorem pow_lt (t:Int)(h:t<16):2 ^ t.toNat<65536:=by
 have:t.toNat<16:=by omega
 exact Nat.pow_lt_pow_right (by decide) this
theorem wrap_pow (t:Int)(h:t<16):IntKind.u16.wrap ((2:Int) ^ t.toNat)=((2 ^ t.toNat:Nat):Int):=by
 have h1:=pow_lt t h
 rw[show ((2:Int) ^ t.toNat)=((2 ^ t.toNat:Nat):Int) from by simp]
 generalize 2 ^ t.toNat=m at *
 show ((m:Int) % 65536)=_
 omega
theorem maskOf_lt (l:List Int)(h:l.all isTy=true):maskOf l<65536:=by
 have key:∀(l:List Int) (m:Nat),m<65536->l.all isTy=true->l.foldl (fun m t=>m ||| 2 ^ t.toNat) m<65536:=by
  intro l
  induction l with
  | nil=>intro m hm _;exact hm
  | cons t r ih=>
   intro m hm hl;rw[List.all_cons,Bool.and_eq_true] at hl;rw[List.foldl_cons];refine ih _ ?_ hl.2
   have ht:t<16:=by
    have:=hl.1
    unfold isTy at this;simp at this;exact this.2
   exact Nat.or_lt_two_pow (n:=16) hm (pow_lt t ht)
 exact key l 0 (by decide) h
def maskG:List Grp->ByteArray->Nat
 | [],_=>0
 | g::r,s=>if (g.1.toList==s.toList)=true then maskOf g.2 else maskG r s
theorem maskG_at:∀(gs:List Grp) (s:ByteArray) (i:Nat) (g:Grp),gs[i]? = some g->(∀x∈gs.take i,(x.1.toList==s.toList)=false)->(g.1.toList==s.toList)=true->maskG gs s=maskOf g.2:=by
 intro gs
 induction gs with
 | nil=>intro s i g h;simp at h
 | cons y r ih=>
  intro s i g h hn he;rw[maskG];cases i with
  | zero=>
   (obtain rfl:y=g:=by simpa using h);rw[if_pos he]
  | succ i=>
   have hy:=hn y (by simp);rw[if_neg (by rw[hy];simp)];exact ih s i g (by simpa using h) (fun x hx=>hn x (by simp;exact .inr hx)) he
theorem maskG_none (s:ByteArray):∀(gs:List Grp),(∀x∈gs,(x.1.toList==s.toList)=false)->maskG gs s=0:=by
 intro gs
 induction gs with
 | nil=>intro _;rfl
 | cons y r ih=>
  intro h;rw[maskG,if_neg (by rw[h y (zzg ..)];simp)];exact ih (fun x hx=>h x (zzk _ hx))
theorem maskG_lt (gs:List Grp)(hr:rightG gs=true)(s:ByteArray):maskG gs s<65536:=by
 unfold rightG at hr
 rw[Bool.and_eq_true] at hr
 have h:=hr.2
 clear hr
 induction gs with
 | nil=>show 0<65536;decide
 | cons y r ih=>
  rw[List.all_cons,Bool.and_eq_true] at h;rw[maskG]
  split
  ·refine maskOf_lt _ ?_
   have:=h.1
   unfold rightTs at this;rw[Bool.and_eq_true] at this;exact this.2
  ·exact ih h.2
theorem k85{p:Prop}(h:p:=by
  intro x hx;rw[List.take_add_one,hg] at hx;rcases List.mem_append.1 hx with hx | hx
  ·exact hT x hx
  ·simp at hx
   rw[hx];exact he
  ):p:=h
theorem typesof_calls (s:ByteArray)(a:Option Addr)(len cap:Nat)(gs:List Grp)(w:World)(h:Groups w a len gs)(hr:rightG gs=true) :
  Calls Tryz.prog 147 #[.string s,.slice a len cap] w fun e w' => e=.returned (.int .u16 (maskG gs s:Int))/\Below w.heap.size w w' := by
 obtain⟨hl,hz,_⟩:=id h
 obtain⟨R,hR⟩:∃R,maskG gs s=R:=⟨_,rfl⟩
 rw[hR]
 have HR:Hid (maskG gs s=R):=hR
 clear hR
 have hlen:len<=16:=by
  unfold rightG at hr;rw[Bool.and_eq_true,hl] at hr;exact of_decide_eq_true hr.1
 have hgr:∀g∈gs,rightTs g.2=true:=by
  unfold rightG at hr;rw[Bool.and_eq_true] at hr;exact List.all_eq_true.1 hr.2
 clear hr
 go_enter Tryz.func147,Tryz.ntmps147
 go_wp2
 go_loopw [12] (fun i w' => ∃j:Nat,j<=len/\i=.int .i64 (j:Int)/\(∀x∈gs.take j,(x.1.toList==s.toList)=false)/\Below w.heap.size w w') (fun i _=>len - (intOf i).toNat)
 case atStart=>exact⟨0,oo,rfl,by simp,zzd _ _⟩
 case round=>
  obtain⟨i,hi,rfl,hT,hB⟩:=hrel
  by_cases hlt:i<len
  ·obtain⟨b,o,g,a', len', cap', rfl,hg,hI,hc⟩:=h.at hlt
   obtain⟨c0,c1⟩:=hc wr hB;obtain⟨hl2,hz2,_⟩:=id hI;have hrt:=hgr g (zzj hg);obtain⟨nm,zs⟩:=g;simp only at hI hl2 c0 hrt;(have HB0:Hid (∀o,Below w.heap.size w (wr.alloc o)):=fun o=>hB.alloc hB.size o);cases he:(nm.toList==s.toList) with
   | false=>
    have HN:Hid (∀x∈gs.take (i+1),(x.1.toList==s.toList)=false):=by
     exact k85
    clear hc hI hg hT hgr h hrt;go_wp2
    go_roundw
    case rel=>exact⟨i+1,oo,rfl,HN.out,HB0.out _⟩
    case measure=>simp[intOf];omega
   | true=>
    have HM:Hid (R=maskOf zs):=by
     show _=_
     rw[<-HR.out];exact maskG_at gs s i (nm,zs) hg hT he
    have hlen2:len' <= 16/\zs.all isTy=true:=by
     unfold rightTs at hrt;rw[Bool.and_eq_true,hl2] at hrt;exact⟨of_decide_eq_true hrt.1,hrt.2⟩
    have hty:Hid (∀(i:Nat) (x:Int),zs[i]? = some x->0<=x/\x<16):=fun i x hx=>by
     have:=List.all_eq_true.1 hlen2.2 x (zzj hx)
     unfold isTy at this;simpa using this
    have hml:Hid (∀j,maskOf (zs.take j)<65536):=fun j=>maskOf_lt _ (by
     rw[List.all_eq_true];intro x hx
     exact List.all_eq_true.1 hlen2.2 x (List.mem_of_mem_take hx))
    have hlen3:=hlen2.1
    have hBI:Hid (∀W,Below w.heap.size w W->∀i:Nat,i<len' -> ∃b o x,a' = some ⟨b,o,none⟩/\zs[i]? = some x/\W.cell? ⟨b,o+i,none⟩=some (.int .i64 x)):=fun W hW i hi=>by
     obtain⟨b,o,x,h1,h2,h3⟩:=hI.at hi;exact⟨b,o,x,h1,h2,h3 W hW⟩
    clear hc hI hg hT hgr h hrt hlen2;go_wp2
    go_loopw [7,23] (fun m i2 w' => ∃j:Nat,j<=len' /\ i2=.int .i64 (j:Int)/\m=.int .u16 (maskOf (zs.take j):Int)/\w' = (wr.alloc (.cells #[.string nm,.slice a' len' cap'] 63))) (fun _ i2 _=>len' - (intOf i2).toNat)
    case atStart=>exact⟨0,oo,rfl,rfl,rfl⟩
    case round=>
     obtain⟨j,hj,rfl,rfl,rfl⟩:=hrel;have hm:=hml.out j
     by_cases hlt2:j<len'
     ·obtain⟨b2,o2,x,rfl,hx,hc2⟩:=hBI.out (wr.alloc (.cells #[.string nm,.slice a' len' cap'] 63)) (HB0.out _) j hlt2
      obtain⟨x0,x1⟩:=hty.out j x hx;(have HS2:Hid (maskOf (zs.take (j+1))=maskOf (zs.take j) ||| 2 ^ x.toNat):=by show _=_;rw[List.take_add_one,hx];exact maskOf_snoc _ _);have hor:=u16_or_nat (maskOf (zs.take j)) (2 ^ x.toNat) hm (pow_lt x x1);clear hx;generalize maskOf (zs.take j)=m at *;go_wp2
      go_roundw
      case rel=>exact⟨j+1,oo,rfl,by rw[wrap_pow x x1,hor,HS2.out],by first | rfl | trivial⟩
      case measure=>simp[intOf];omega
     ·obtain rfl:j=len' := by omega
      rw[zzm (Nat.le_of_eq hl2),<-HM.out];go_wp2;go_ret;exact⟨rfl,HB0.out _⟩
  ·obtain rfl:i=len:=by omega
   have HF:Hid (R=0):=by
    show _=_
    rw[<-HR.out];rw[zzm (Nat.le_of_eq hl)] at hT;exact maskG_none s gs hT
   clear hT h hgr;go_wp2;go_ret;exact⟨by rw[HF.out];rfl,hB⟩
def nmd (gs:List Grp):Nat->DataW Unit->Bool
 | 0,_=>true
 | n+1,t=>if kindT t=1 then !(((maskG gs (nameT t):Nat):Int)==0) else (subs t).all (nmd gs n)
theorem k55{p:Prop}(h:p:=by
  go_enter Tryz.func145,Tryz.ntmps145;(go_wp2_with fail);refine(HT.out _ (HB0.out _)).mono ?_;rintro e W ⟨rfl,hW⟩;go_wp2;go_ret;exact⟨rfl,(HB0.out _).trans (hW.mono (by simp))⟩
  ):p:=h
theorem named_calls (ga:Option Addr)(gl gc:Nat)(gs:List Grp)(hr:rightG gs=true):∀(n:Nat) (t:DataW Unit) (v:Value) (w:World),Ex w n t v->Groups w ga gl gs →
  Calls Tryz.prog 145 #[v,.slice ga gl gc] w fun e w' => e=.returned (.bool (nmd gs n t))/\Below w.heap.size w w' := by
 intro n
 induction n with
 | zero=>intro t v w h;exact h.elim
 | succ n ih=>
  intro t v w h hG;obtain⟨k,s,a,len,cap,ts,rfl,rfl,hl,hz,hk⟩:=h;(have HB0:Hid (∀o,Below w.heap.size w (w.alloc o)):=fun o=>(zzd _ w).alloc (zzb _) _);rw[nmd,kindT_node,subs_node,nameT_node]
  by_cases k1:k=1
  ·subst k1
   rw[if_pos rfl];(have HT:Hid (∀W,Below w.heap.size w W->Calls Tryz.prog 147 #[.string s,.slice ga gl gc] W fun e w' => e=.returned (.int .u16 (maskG gs s:Int))/\Below W.heap.size W w'):=fun W hW=>typesof_calls s ga gl gc gs W (hG.below hW) hr);generalize ((maskG gs s:Nat):Int)=m at *;clear hk ih hG;cases hm:(m==0) with
   | true=>
    (have hm2:(m != 0)=false:=by simp[bne,hm]);exact k55
   | false=>
    (have hm2:(m != 0)=true:=by simp[bne,hm]);exact k55
  ·rw[if_neg k1]
   (have e1:(k==1)=false:=by simpa using k1);obtain⟨R,hR⟩:∃R,ts.all (nmd gs n)=R:=⟨_,rfl⟩;rw[hR];have HR:Hid (ts.all (nmd gs n)=R):=hR;clear hR;go_enter Tryz.func145,Tryz.ntmps145;go_wp2
   go_loopw [18] (fun i w' => ∃j:Nat,j<=len/\i=.int .i64 (j:Int)/\(ts.take j).all (nmd gs n)=true/\Below (w.alloc (.cells #[.int .i64 k,.string s,.slice a len cap] 69)).heap.size (w.alloc (.cells #[.int .i64 k,.string s,.slice a len cap] 69)) w') (fun i _=>len - (intOf i).toNat)
   case atStart=>exact⟨0,oo,rfl,rfl,zzd _ _⟩
   case round=>
    obtain⟨i,hi,rfl,hT,hB⟩:=hrel;obtain⟨-,-,-,hBw⟩:=one_kept hB
    by_cases hlt:i<len
    ·obtain⟨b,o,x,kx,sx,ax,lx,cx,rfl,_,hx,hcx⟩:=kid_at hl hk hlt
     obtain⟨p0,p1,p2,p3⟩:=hcx wr hBw;(have HI:Hid ((ts.take (i+1)).all (nmd gs n)=nmd gs n x):=by show _=_;rw[allI_step hx,hT,Bool.true_and]);(have HO:Hid (nmd gs n x=false->R=false):=fun e=>by rw[<-HR.out];exact allI_not hx e);(have HC:Hid (∀W,Below wr.heap.size wr W->Calls Tryz.prog 145 #[.agg #[.int .i64 kx,.string sx,.slice ax lx cx],.slice ga gl gc] W fun e w' => e=.returned (.bool (nmd gs n x))/\Below W.heap.size W w'):=fun W hW=>ih x _ W (Ex.below hW _ _ _ p3) ((hG.below hBw).below hW));(have HW:Hid (∀o,Below wr.heap.size wr (wr.alloc o)):=fun o=>(zzd _ wr).alloc (zzb _) _);clear hcx hk p3 hx ih hT hG;generalize nmd gs n x=q at *;cases q with
     | false=>
      have HF:Hid (R=false):=HO.out rfl;clear HO;(go_wp2_with fail);refine(HC.out _ (HW.out _)).mono ?_;rintro e W2 ⟨rfl,hW2⟩;have hB2:Below wr.heap.size wr W2:=(HW.out _).trans (hW2.mono (by simp));go_wp2;go_ret;exact⟨by rw[HF.out];rfl,hBw.trans (hB2.mono hBw.size)⟩
     | true=>
      clear HO;(go_wp2_with fail);refine(HC.out _ (HW.out _)).mono ?_;rintro e W2 ⟨rfl,hW2⟩;have hB2:Below wr.heap.size wr W2:=(HW.out _).trans (hW2.mono (by simp));exact k92
    ·obtain rfl:i=len:=by omega
     have HF:Hid (R=true):=by
      show R=true
      rw[<-HR.out,<-hT,zzm (Nat.le_of_eq hl)]
     clear hk ih hT hG;go_wp2;go_ret;exact⟨by rw[HF.out];rfl,hBw⟩
def chk (n:Nat)(t:DataW Unit)(gs:List Grp):Int:=if checkE n t=0 then (if rightG gs=true then (if nmd gs n t=true then 0 else 6) else 1) else checkE n t
theorem k23{p:Prop}(h:p:=by
  go_enter Tryz.func117,Tryz.ntmps117;(go_wp2_with fail);refine(H1.out _ (HB0.out _)).mono ?_;rintro e W ⟨rfl,hW⟩;obtain⟨c0,c1,c2,hBw⟩:=HF0.out W hW;(go_wp2_with fail);refine(H2.out _ hBw).mono ?_;rintro e W2 ⟨rfl,hW2⟩;have hB2:Below (w.alloc (.cells #[.int .i64 k,.string s,.slice a len cap] 69)).heap.size (w.alloc (.cells #[.int .i64 k,.string s,.slice a len cap] 69)) W2:=hW.trans (hW2.mono hW.size);obtain⟨d0,d1,d2,hBw2⟩:=HF0.out W2 hB2;clear c0 c1 c2;(go_wp2_with fail);refine(H3'.out _ hBw2).mono ?_;rintro e W3 ⟨rfl,hW3⟩;go_wp2;go_ret;exact⟨rfl,hBw2.trans (hW3.mono hBw2.size)⟩
  ):p:=h
theorem rcheck_calls (n:Nat)(t:DataW Unit)(v:Value)(ga:Option Addr)(gl gc:Nat)(gs:List Grp)(w:World)(h:Ex w n t v)(hN:named n t)(hG:Groups w ga gl gs) :
  Calls Tryz.prog 117 #[v,.slice ga gl gc] w fun e w' => e=.returned (.int .i64 (chk n t gs))/\Below w.heap.size w w' := by
 have H1:Hid (∀W,Below w.heap.size w W->Calls Tryz.prog 143 #[v] W fun e w' => e=.returned (.int .i64 (checkE n t))/\Below W.heap.size W w'):=fun W hW=>check_calls n t v W (Ex.below hW _ _ _ h) hN
 have H2:Hid (∀W,Below w.heap.size w W->Calls Tryz.prog 144 #[.slice ga gl gc] W fun e w' => e=.returned (.bool (rightG gs))/\Below W.heap.size W w'):=fun W hW=>rightgroups_calls ga gl gc gs W (hG.below hW)
 have H3:Hid (rightG gs=true->∀W,Below w.heap.size w W->Calls Tryz.prog 145 #[v,.slice ga gl gc] W fun e w' => e=.returned (.bool (nmd gs n t))/\Below W.heap.size W w'):=fun hr W hW=>named_calls ga gl gc gs hr n t v W (Ex.below hW _ _ _ h) (hG.below hW)
 unfold chk
 generalize checkE n t=c at *
 generalize rightG gs=r at *
 generalize nmd gs n t=q at *
 have HB0:Hid (∀o,Below w.heap.size w (w.alloc o)):=fun o=>(zzd _ w).alloc (zzb _) _
 obtain⟨k,s,a,len,cap,rfl⟩:∃k s a len cap,v=.agg #[.int .i64 k,.string s,.slice a len cap]:=by
  exact k106
 have HF0:Hid (∀W:World,Below (w.alloc (.cells #[.int .i64 k,.string s,.slice a len cap] 69)).heap.size (w.alloc (.cells #[.int .i64 k,.string s,.slice a len cap] 69)) W->W.cell? ⟨w.heap.size,0,none⟩=some (.int .i64 k)/\W.cell? ⟨w.heap.size,1,none⟩=some (.string s)/\W.cell? ⟨w.heap.size,2,none⟩=some (.slice a len cap)/\Below w.heap.size w W):=fun W hW=>one_kept hW
 clear h hN hG
 by_cases hc:c=0
 ·subst hc
  rw[if_pos rfl];cases r with
  | false=>
   rw[if_neg (by decide)];clear H3;go_enter Tryz.func117,Tryz.ntmps117;(go_wp2_with fail);refine(H1.out _ (HB0.out _)).mono ?_;rintro e W ⟨rfl,hW⟩;obtain⟨c0,c1,c2,hBw⟩:=HF0.out W hW;(go_wp2_with fail);refine(H2.out _ hBw).mono ?_;rintro e W2 ⟨rfl,hW2⟩;go_wp2;go_ret;exact⟨rfl,hBw.trans (hW2.mono hBw.size)⟩
  | true=>
   rw[if_pos rfl];have H3' : Hid (∀W,Below w.heap.size w W->Calls Tryz.prog 145 #[.agg #[.int .i64 k,.string s,.slice a len cap],.slice ga gl gc] W fun e w' => e=.returned (.bool q)/\Below W.heap.size W w'):=H3.out rfl;clear H3;cases q with
   | false=>
    rw[if_neg (by decide)];exact k23
   | true=>
    rw[if_pos rfl];exact k23
 ·rw[if_neg hc]
  (have e0:(c==0)=false:=by simpa using hc);(have e1:(c != 0)=true:=by simp[bne,e0]);clear H2 H3;go_enter Tryz.func117,Tryz.ntmps117;(go_wp2_with fail);refine(H1.out _ (HB0.out _)).mono ?_;rintro e W ⟨rfl,hW⟩;obtain⟨c0,c1,c2,hBw⟩:=HF0.out W hW;go_wp2;go_ret;exact⟨rfl,hBw⟩
abbrev RawP:Type:=Nat×Value×Nat
def rowP:List RawP->List Value
 | []=>[]
 | x::r=>.int .u16 (x.1:Int)::x.2.1 :: .int .i64 (x.2.2:Int)::rowP r
theorem rowP_append (l m:List RawP):rowP (l++m)=rowP l++rowP m:=by
 induction l with
 | nil=>rfl
 | cons x r ih=>simp[rowP,ih]
theorem rowP_length (l:List RawP):(rowP l).length=l.length * 3:=by
 induction l with
 | nil=>rfl
 | cons x r ih=>simp[rowP,ih];omega
theorem rowP_at (l:List RawP)(i:Nat)(x:RawP)(h:l[i]? = some x):(rowP l)[i * 3]? = some (.int .u16 (x.1:Int))/\(rowP l)[i * 3+1]? = some x.2.1/\(rowP l)[i * 3+2]? = some (.int .i64 (x.2.2:Int)):=by
 induction l generalizing i with
 | nil=>simp at h
 | cons y r ih=>
  cases i with
  | zero=>
   (obtain rfl:y=x:=by simpa using h);exact⟨rfl,rfl,rfl⟩
  | succ i=>
   have:=ih i (by simpa using h)
   rw[show (i+1) * 3=i * 3+3 from by omega,show i * 3+3+1=i * 3+1+3 from by omega,show i * 3+3+2=i * 3+2+3 from by omega];exact this
def numsV (l:List Nat):List Value:=l.map (fun q:Nat=>Value.int .i64 (q:Int))
theorem numsV_append (l m:List Nat):numsV (l++m)=numsV l++numsV m:=by unfold numsV;simp
theorem numsV_at {l:List Nat}{i q:Nat}(h:l[i]? = some q):(numsV l)[i]? = some (.int .i64 (q:Int)):=by unfold numsV;rw[List.getElem?_map,h];rfl
theorem owns_same {w w' : World}{base:Nat}{e:TypeId}{sz:Nat}{v:Value}{n:Nat}{xs:List Value}(h:w.ownsRow base e sz v n xs)(hs:∀g,v.ownBlock=some g->w'.heap[g]? = w.heap[g]?):w'.ownsRow base e sz v n xs:=by
 obtain⟨h1,h2⟩:=h
 refine⟨h1,?_⟩
 rcases h2 with h2 | ⟨g,cap,cur,rfl,hb,hg,hr⟩
 ·exact .inl h2
 ·exact .inr ⟨g,cap,cur,rfl,hb,(hs g rfl).trans hg,hr⟩
theorem owns_lt {w:World}{base:Nat}{e:TypeId}{sz:Nat}{v:Value}{n:Nat}{xs:List Value}(h:w.ownsRow base e sz v n xs){g:Nat}(hg:v.ownBlock=some g):g<w.heap.size/\∃cur,w.heap[g]? = some (.cells cur e (0,0)):=by
 rcases h.2 with ⟨rfl,_⟩ | ⟨g', cap,cur,rfl,hb,hg', _⟩
 ·cases hg
 ·cases hg
  exact⟨(zza.1 hg').1,cur,hg'⟩
theorem owns_one {w:World}{base:Nat}{e:TypeId}{sz:Nat}{v:Value}{n:Nat}{xs:List Value}(h:w.ownsRow base e sz v n xs):v.oneCell' = true:=by
 rcases h.2 with ⟨rfl,_⟩ | ⟨g', cap,cur,rfl,_⟩<;>rfl
theorem owns_cell {w:World}{base:Nat}{e:TypeId}{sz:Nat}{v:Value}{n:Nat}{xs:List Value}(h:w.ownsRow base e sz v n xs)(hn:0<n):∃g cap,v=.slice (some ⟨g,0,none⟩) n cap/\∀j u,xs[j]? = some u->w.cell? ⟨g,j,none⟩=some u:=by
 obtain⟨h1,h2⟩:=h
 rcases h2 with ⟨_,rfl⟩ | ⟨g,cap,cur,rfl,hb,hg,_,_,_,hx⟩
 ·omega
 ·refine⟨g,cap,rfl,fun j u hj=>?_⟩
  have hjl:j<n * sz:=by
   have:=(zzc.1 hj).1
   omega
  rw[<-hx,List.getElem?_take,if_pos hjl,Array.getElem?_toList] at hj;simp[World.cell?,hg,hj]
structure PlanAt (A:Nat->Prop) (w:World) (B:Nat) (gv v:Value) (rs:List RawP) (L:List Place):Prop where
 plan:w.heap[B]? = some (.cells #[gv,v] 169 (0,0))
 own:A B
 row:w.ownsRow 0 167 3 v L.length (rowP rs)
 rowA:∀g,v.ownBlock=some g->A g
 len:rs.length=L.length
 each:∀(i:Nat) (x:Place),L[i]? = some x->∃r,rs[i]? = some r/\r.1=x.1/\r.2.2=x.2.2/\w.ownsRow 0 3 1 r.2.1 x.2.1.length (numsV x.2.1)/\∀g,r.2.1.ownBlock=some g->A g
 apart:∀(i j:Nat) (ri rj:RawP) (g:Nat),rs[i]? = some ri->rs[j]? = some rj->ri.2.1.ownBlock=some g->rj.2.1.ownBlock=some g->i=j
def PlanIn (A:Nat->Prop)(w:World)(B:Nat)(gv:Value)(L:List Place):Prop:=∃v rs,PlanAt A w B gv v rs L
theorem PlanAt.kept {A A' : Nat->Prop}{w w' : World}{B:Nat}{gv v:Value}{rs:List RawP}{L:List Place}(h:PlanAt A w B gv v rs L)(hA:∀b,A b->A' b)(hs:∀b,b<w.heap.size->A b->w'.heap[b]? = w.heap[b]?):PlanAt A' w' B gv v rs L:=by
 refine⟨(hs B (zza.1 h.plan).1 h.own).trans h.plan,hA _ h.own,owns_same h.row fun g hg=>hs g (owns_lt h.row hg).1 (h.rowA g hg),fun g hg=>hA g (h.rowA g hg),h.len,fun i x hx=>?_,h.apart⟩
 obtain⟨r,h1,h2,h3,h4,h5⟩:=h.each i x hx
 exact⟨r,h1,h2,h3,owns_same h4 fun g hg=>hs g (owns_lt h4 hg).1 (h5 g hg),fun g hg=>hA g (h5 g hg)⟩
theorem PlanIn.kept {A A' : Nat->Prop}{w w' : World}{B:Nat}{gv:Value}{L:List Place}(h:PlanIn A w B gv L)(hA:∀b,A b->A' b)(hs:∀b,b<w.heap.size->A b->w'.heap[b]? = w.heap[b]?):PlanIn A' w' B gv L:=by
 obtain⟨v,rs,h⟩:=h
 exact⟨v,rs,h.kept hA hs⟩
structure Fr (A:Nat->Prop) (w:World) (A' : Nat->Prop) (w' : World):Prop where
 below:Below 0 w w'
 same:∀b,b<w.heap.size->¬A b->w'.heap[b]? = w.heap[b]?
 sub:∀b,A' b->A b\/w.heap.size<=b
theorem Fr.refl (A:Nat->Prop)(w:World):Fr A w A w:=⟨zzd _ _,fun _ _ _=>rfl,fun _ h=>.inl h⟩
theorem Fr.trans {A A' A'' : Nat->Prop}{w w' w'' : World}(h:Fr A w A' w')(k:Fr A' w' A'' w''):Fr A w A'' w'' := by
 have hs:=h.below.size
 refine⟨h.below.trans k.below,fun b hb hA=>?_,fun b hb=>?_⟩
 ·rw[k.same b oo (fun h' => by rcases h.sub b h' with h1 | h1;exact hA h1;omega),h.same b hb hA]
 ·rcases k.sub b hb with h1 | h1
  ·exact h.sub b h1
  ·exact .inr oo
theorem Fr.alloc {A A' : Nat->Prop}{w w' : World}(h:Fr A w A' w')(o:Obj):Fr A w A' (w'.alloc o) :=
 ⟨h.below.alloc (zzn _) o,fun b hb hA=>(zzf w' o b (zzl hb h.below.size)).trans (h.same b hb hA),h.sub⟩
theorem Fr.toBelow {A A' : Nat->Prop}{w w' : World}(h:Fr A w A' w'){base:Nat}(hb:base<=w.heap.size)(hA:∀b,b<base->¬A b):Below base w w' :=
 ⟨h.below.os,h.below.tape,h.below.output,h.below.size,fun b hlt=>h.same b oo (hA b hlt)⟩
theorem Fr.of_below {A:Nat->Prop}{w w' : World}(h:Below w.heap.size w w'):Fr A w A w' := ⟨h.mono (zzn _),fun b hb _=>h.block b hb,fun _ h=>.inl h⟩
theorem Fr.less {A A1 A' : Nat->Prop}{w w' : World}(h:Fr A1 w A' w')(hA:∀b,A1 b->A b\/w.heap.size<=b):Fr A w A' w' :=
 ⟨h.below,fun b hb hn=>h.same b hb (fun h1=>by rcases hA b h1 with h2 | h2;exact hn h2;omega),fun b hb=>by
  rcases h.sub b hb with h1 | h1
  ·exact hA b h1
  ·exact .inr h1⟩
theorem infoPlace:(Tryz.prog.info? 167).map (fun i=>(i.zero,i.size,i.bytes))=some (some (.agg #[.int .u16 0,.slice none 0 0,.int .i64 0]),3,40):=by kernel_rfl
theorem infoInt:(Tryz.prog.info? 3).map (fun i=>(i.zero,i.size,i.bytes))=some (some (.int .i64 0),1,8):=by kernel_rfl
theorem heap_setCell {w:World}{B:Nat}{c0 c1:Value}{t:TypeId}(h:w.heap[B]? = some (.cells #[c0,c1] t (0,0)))(u:Value):(w.setCell ⟨B,1,none⟩ u).heap[B]? = some (.cells #[c0,u] t (0,0)):=by
 obtain⟨hlt,hk⟩:=zza.1 h
 show (w.heap.modify B _)[B]? = _
 rw[Array.getElem?_eq_getElem (by rw[Array.size_modify];exact hlt),Array.getElem_modify_self,hk]
 rfl
theorem k120{p:Prop}(h:p:=by
  exact⟨r2.os,r2.tape,r2.output,by have:=r2.size;simpa using this,fun k hk=>absurd hk oo⟩
  ):p:=h
theorem plan_push {A:Nat->Prop}{W:World}{B:Nat}{gv v:Value}{rs:List RawP}{L:List Place}(h:PlanAt A W B gv v rs L)(t l:Nat)(next:List Nat)(hv:Value)(hh:W.ownsRow 0 3 1 hv next.length (numsV next))(hf:∀g,hv.ownBlock=some g->¬A g)(hlen:L.length<=2000000000)
  (b cap:Nat) (hc:∀j u,(rowP [(t,hv,l)])[j]? = some u->W.cell? ((⟨b,0,none⟩:Addr).add j)=some u) :
  ∃v' W1 A', (Builtin.append_ #[159,159] 159 #[v,.slice (some ⟨b,0,none⟩) 1 cap]).run Tryz.prog W=.ok v' W1/\(∃g' cap', v' = .slice (some ⟨g', 0,none⟩) (L.length+1) cap')/\W1.heap[B]? = W.heap[B]? ∧
   (∀k,k<W.heap.size->v.ownBlock≠some k->W1.heap[k]? = W.heap[k]?) ∧
   PlanAt A' (W1.setCell ⟨B,1,none⟩ v') B gv v' (rs++[(t,hv,l)]) (L++[(t,next,l)])/\Fr (fun k=>A k\/hv.ownBlock=some k) W A' (W1.setCell ⟨B,1,none⟩ v'):=by
 obtain⟨i0,hi,hz0,hz1,hz2⟩:=info_parts infoPlace
 obtain⟨v', W1,hrun,r1,r2,_,r4⟩:=run_append_own_at (P:=Tryz.prog) W 0 159 159 167 i0 _ 3 40 Tryz.underlying159 hi hz0 hz1 hz2 rfl (by decide) v L.length _ h.row ⟨b,0,none⟩ 1 cap (rowP [(t,hv,l)]) (by rw[rowP_length];rfl) hc (fun u hu=>by
  simp only[rowP,List.mem_cons,List.not_mem_nil,or_false] at hu;rcases hu with rfl | rfl | rfl
  ·rfl
  ·exact owns_one hh
  ·rfl) (by unfold maxLen;omega) oo (zzn _)
 rw[<-rowP_append] at r1
 have hBlt:B<W.heap.size:=(zza.1 h.plan).1
 have hBv:∀g,v.ownBlock=some g->B≠g:=fun g hg e=>by
  subst e;obtain⟨_,cur,hcur⟩:=owns_lt h.row hg;rw[h.plan] at hcur;cases hcur
 have hsame:∀k,k<W.heap.size->v.ownBlock≠some k->W1.heap[k]? = W.heap[k]? := fun k hk hne=>r2.block k hk (fun e=>hne e.symm)
 have hB1:W1.heap[B]? = W.heap[B]? := hsame B hBlt (fun e=>hBv B e rfl)
 have hset:∀k,k≠B->(W1.setCell ⟨B,1,none⟩ v').heap[k]? = W1.heap[k]? := fun k hk=>zzh W1 _ _ k hk
 have hv'B:∀g,v'.ownBlock=some g->g≠B:=fun g hg e=>by
  subst e;rcases r4 with e | e
  ·rw[e] at hg
   exact hBv g hg rfl
  ·rw[e] at hg
   cases hg;omega
 have hrowl:∀g,v.ownBlock=some g->∃cur,W.heap[g]? = some (.cells cur 167 (0,0)):=fun g hg=>(owns_lt h.row hg).2
 -- a row of numbers is as it was
 have hnum:∀(u:Value) (n:Nat) (xs:List Value),W.ownsRow 0 3 1 u n xs->(W1.setCell ⟨B,1,none⟩ v').ownsRow 0 3 1 u n xs:=fun u n xs ho=>owns_same ho fun g hg=>by
  obtain⟨hlt,cur,hcur⟩:=owns_lt ho hg
  rw[hset g (fun e=>by subst e;rw[h.plan] at hcur;cases hcur),hsame g hlt (fun e=>by
   obtain⟨cur', hcur'⟩:=hrowl g e;rw[hcur] at hcur'
   cases hcur')]
 refine⟨v', W1,fun k=>(A k\/hv.ownBlock=some k)\/v'.ownBlock=some k,hrun,?_,hB1,hsame,⟨heap_setCell (hB1.trans h.plan) v', .inl (.inl h.own),?_,fun g hg=>.inr hg,by simp[h.len],fun i x hx=>?_,?_⟩,⟨?_,fun k hk hn=>?_,fun k hk=>?_⟩⟩
 ·obtain⟨g', cap', e,_⟩:=owns_cell r1 oo
  exact⟨g', cap', e⟩
 ·have:=owns_same (w' := W1.setCell ⟨B,1,none⟩ v') r1 fun g hg=>hset g (hv'B g hg)
  simpa using this
 ·rcases Nat.lt_or_ge i L.length with hlt | hge
  ·rw[get_snoc_lt hlt] at hx
   obtain⟨r,h1,h2,h3,h4,h5⟩:=h.each i x hx;refine⟨r,?_,h2,h3,hnum _ _ _ h4,fun g hg=>.inl (.inl (h5 g hg))⟩;rw[List.getElem?_append_left (by rw[h.len];exact hlt)];exact h1
  ·have hil:i=L.length:=by
    have:=(zzc.1 hx).1
    simp at this;omega
   subst hil;rw[get_snoc_eq] at hx;cases hx;refine⟨(t,hv,l),?_,rfl,rfl,hnum _ _ _ hh,fun g hg=>.inl (.inr hg)⟩;rw[<-h.len]
   simp
 ·have hold:∀(i:Nat) (r:RawP) (g:Nat),i<rs.length->rs[i]? = some r->r.2.1.ownBlock=some g->A g:=fun i r g hi hr hg=>by
   obtain⟨x,hx⟩:∃x,L[i]? = some x:=⟨_,zze (by rw[<-h.len];exact hi)⟩;obtain⟨r', h1,_,_,_,h5⟩:=h.each i x hx;rw[hr] at h1;cases h1;exact h5 g hg
  have hcase:∀(i:Nat) (r:RawP),(rs++[((t,hv,l):RawP)])[i]? = some r->(i<rs.length/\rs[i]? = some r)\/(i=rs.length/\r=(t,hv,l)):=fun i r hr=>by
   rcases Nat.lt_or_ge i rs.length with hlt | hge
   ·rw[List.getElem?_append_left hlt] at hr
    exact .inl ⟨hlt,hr⟩
   ·have hil:i=rs.length:=by
     have:=(zzc.1 hr).1
     simp at this;omega
    subst hil;simp at hr;exact .inr ⟨rfl,hr.symm⟩
  intro i j ri rj g hi hj gi gj;rcases hcase i ri hi with ⟨i1,i2⟩ | ⟨i1,rfl⟩<;>rcases hcase j rj hj with ⟨j1,j2⟩ | ⟨j1,rfl⟩
  ·exact h.apart i j ri rj g i2 j2 gi gj
  ·exact absurd (hold i ri g i1 i2 gi) (hf g gj)
  ·exact absurd (hold j rj g j1 j2 gj) (hf g gi)
  ·rw[i1,j1]
 ·exact k120
 ·have hkB:k≠B:=fun e=>hn (.inl (e▸h.own))
  rw[hset k hkB];exact hsame k hk (fun e=>hn (.inl (h.rowA k e)))
 ·rcases hk with hk | hk
  ·exact .inl hk
  ·rcases r4 with e | e
   ·rw[e] at hk
    exact .inl (.inl (h.rowA k hk))
   ·rw[e] at hk
    cases hk;exact .inr (zzb _)
end Go.Proofs.YtjkebndkeamijaaGreatDoor
