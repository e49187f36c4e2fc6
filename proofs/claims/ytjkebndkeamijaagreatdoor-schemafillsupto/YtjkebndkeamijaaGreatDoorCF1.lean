/-
  PROVED HERE: what the texts DFAl, DFLaidT, DFTree, DFBits6, DFTz6, DFLaidTab, DFDefs say.
-/
import Derived.Test.YtjkebndkeamijaaGreatDoorProg
import Derived.WalkKit
import Derived.Below
import Derived.Laws.Rows
import Derived.Deep.Light
import Derived.Test.YtjkebndkeamijaaGreatDoorCards
import Derived.Test.YtjkebndkeamijaaGreatDoorTie
import Derived.ProofKit
import Derived.OpenShut
import Derived.Deep.DeepHandedRow
import Derived.LaidLaws
import Derived.LaidHandle
import Derived.ChangeMaps5
import Derived.DataShut
import Derived.ChangeSame
import Derived.ChangeArms
import Derived.BigQuiet
import Derived.Deep.QuietTactic
import Derived.RegionTactic
import Derived.BigRegion
import Derived.Deep.RegionWith
import Derived.Deep.RegionHeld3
import GoSem.Claim
import Derived.Laws.Strings
import Derived.Laws.BitsAllLaws
import Derived.WalkSmall
set_option maxRecDepth 100000
set_option maxHeartbeats 4000000
namespace Go.Proofs.YtjkebndkeamijaaGreatDoor
open Go.RowKit
abbrev zza := @Array.getElem?_eq_some_iff
abbrev zzb := @Nat.le_refl
abbrev zzc := @List.getElem?_eq_some_iff
abbrev zzd := @Below.refl
abbrev zze := @List.getElem?_eq_getElem
abbrev zzf := @Below.heap_alloc
abbrev zzg := @List.mem_cons_self
abbrev zzh := @Below.heap_setCell
abbrev zzi := @World.cell?_of_block
abbrev zzj := @List.mem_of_getElem?
abbrev zzk := @List.mem_cons_of_mem
abbrev zzl := @Nat.lt_of_lt_of_le
abbrev zzm := @List.take_of_length_le
abbrev zzn := @Nat.zero_le
abbrev zzo := @Option.some.inj
theorem oo{p:Prop}(h:p:=by omega):p:=h
theorem kr{p:Prop}(h:p:=by kernel_rfl):p:=h
end Go.Proofs.YtjkebndkeamijaaGreatDoor
namespace Go.Proofs.YtjkebndkeamijaaGreatDoor
open Go.ChangeShapes Go.WideShapes Go.ChangeAt Go.RowKit
theorem q_tab : Tryz.prog.globalNamed "math/bits.deBruijn32tab" = some 0 := by kernel_rfl
theorem q_tabT:(Tryz.prog.globals[0]?).map (·.type)=some 211:=by kernel_rfl
def listedT : List (String × DataW Unit) := [("math/bits.deBruijn32tab", Rows.laid_math_bits_deBruijn32tab)]
def tabCells:Array Value:=#[.int .u8 0,.int .u8 1,.int .u8 28,.int .u8 2,.int .u8 29,.int .u8 14,.int .u8 24,.int .u8 3,.int .u8 30,.int .u8 22,.int .u8 20,.int .u8 15,.int .u8 25,.int .u8 17,.int .u8 4,.int .u8 8,.int .u8 31,.int .u8 27,.int .u8 13,.int .u8 23,.int .u8 21,.int .u8 19,.int .u8 16,.int .u8 7,.int .u8 26,.int .u8 12,.int .u8 18,.int .u8 6,.int .u8 11,.int .u8 5,.int .u8 10,.int .u8 9]
end Go.Proofs.YtjkebndkeamijaaGreatDoor
namespace Go.Proofs.YtjkebndkeamijaaGreatDoor
open Go.RowKit
def node (k:Int)(s:ByteArray)(ts:List (DataW Unit)):DataW Unit:=.agg [.lit (.int .i64 k),.lit (.string s.data.toList),.slice ts []]
theorem node_inj {k k' : Int}{s s' : ByteArray}{ts ts' : List (DataW Unit)}:node k s ts=node k' s' ts' ↔ k=k' /\ s=s' /\ ts=ts' := by
 unfold node
 simp only[DataW.agg.injEq,List.cons.injEq,DataW.lit.injEq,Lit.int.injEq,Lit.string.injEq,DataW.slice.injEq,and_true,true_and]
 constructor
 ·rintro⟨h1,h2,h3⟩
  refine⟨h1,?_,h3⟩;apply ByteArray.ext;exact Array.toList_inj.1 h2
 ·rintro⟨rfl,rfl,rfl⟩
  exact⟨rfl,rfl,rfl⟩
def Ex (w:World):Nat->DataW Unit->Value->Prop
 | 0,_,_=>False
 | n+1,t,v=>∃(k:Int) (s:ByteArray) (a:Option Addr) (len cap:Nat) (ts:List (DataW Unit)),t=node k s ts/\v=.agg #[.int .i64 k,.string s,.slice a len cap]/\ts.length=len/\len<=9223372036854775807 ∧
   (len=0\/∃b o,a=some ⟨b,o,none⟩/\b<w.heap.size/\∀i x,ts[i]? = some x->∃(k' : Int) (s' : ByteArray) (a' : Option Addr) (len' cap' : Nat),
    w.cell? ⟨b,o+i * 3,none⟩=some (.int .i64 k')/\w.cell? ⟨b,o+i * 3+1,none⟩=some (.string s')/\w.cell? ⟨b,o+i * 3+2,none⟩=some (.slice a' len' cap')/\Ex w n x (.agg #[.int .i64 k', .string s', .slice a' len' cap']))
theorem Ex.below {w w' : World}(hb:Below w.heap.size w w'):∀(n:Nat) (t:DataW Unit) (v:Value),Ex w n t v->Ex w' n t v:=by
 intro n
 induction n with
 | zero=>intro t v h;exact h
 | succ n ih=>
  rintro t v ⟨k,s,a,len,cap,ts,h1,h2,h3,h4,h5⟩;refine⟨k,s,a,len,cap,ts,h1,h2,h3,h4,?_⟩;rcases h5 with h5 | ⟨b,o,rfl,hlt,hc⟩
  ·exact .inl h5
  ·refine .inr ⟨b,o,rfl,zzl hlt hb.size,fun i x hx=>?_⟩
   obtain⟨k', s', a', len', cap', c0,c1,c2,c3⟩:=hc i x hx;exact⟨k', s', a', len', cap', (hb.cell (p:=⟨b,_,none⟩) hlt).trans c0,(hb.cell (p:=⟨b,_,none⟩) hlt).trans c1,(hb.cell (p:=⟨b,_,none⟩) hlt).trans c2,ih _ _ c3⟩
theorem kid_at {w:World}{n len:Nat}{a:Option Addr}{ts:List (DataW Unit)}(hl:ts.length=len)(h:len=0\/∃b o,a=some ⟨b,o,none⟩/\b<w.heap.size/\∀i x,ts[i]? = some x->∃(k' : Int) (s' : ByteArray) (a' : Option Addr) (len' cap' : Nat),
    w.cell? ⟨b,o+i * 3,none⟩=some (.int .i64 k')/\w.cell? ⟨b,o+i * 3+1,none⟩=some (.string s')/\w.cell? ⟨b,o+i * 3+2,none⟩=some (.slice a' len' cap')/\Ex w n x (.agg #[.int .i64 k', .string s', .slice a' len' cap']))
  {i:Nat} (hi:i<len):∃b o x k' s' a' len' cap', a=some ⟨b,o,none⟩/\b<w.heap.size/\ts[i]? = some x/\∀W:World,Below w.heap.size w W →
   W.cell? ⟨b,o+i * 3,none⟩=some (.int .i64 k')/\W.cell? ⟨b,o+i * 3+1,none⟩=some (.string s')/\W.cell? ⟨b,o+i * 3+2,none⟩=some (.slice a' len' cap')/\Ex W n x (.agg #[.int .i64 k', .string s', .slice a' len' cap']):=by
 rcases h with h | ⟨b,o,rfl,hlt,hc⟩
 ·omega
 ·have hx:ts[i]? = some (ts[i]'(by omega)):=zze oo
  obtain⟨k', s', a', len', cap', c0,c1,c2,c3⟩:=hc i _ hx;exact⟨b,o,_,k', s', a', len', cap', rfl,hlt,hx,fun W hb=>⟨(hb.cell (p:=⟨b,_,none⟩) hlt).trans c0,(hb.cell (p:=⟨b,_,none⟩) hlt).trans c1,(hb.cell (p:=⟨b,_,none⟩) hlt).trans c2,Ex.below hb _ _ _ c3⟩⟩
theorem takeD {P:Program}{md:Region.Mode}{ops:Array Oper}{Q:Exit->Act->World->Prop}{S:World->Prop}{fuel:Nat}{listed:Array Bool}{a:Act}{w:World}(i:Nat)(d:Option Tmp){oi:Oper}{v:Value}(hi:ops[i]? = some oi)(hd:oi.dst=d)
  (hs:Region.noSelect ops=true) (hf:Region.free md ops listed i=true) (hr:(Region.ready md ops listed).contains i=true) (hQ:∀c a w,Q (.panic c) (a.put d v) w->Q (.panic c) a w) (hy:YieldsIf P ops S oi v a) (hS:S w)
  (h:wpAnyH P md ops Q S fuel (listed.setIfInBounds i true) (a.put d v) w):wpAnyH P md ops Q S (fuel+1) listed a w:=by
 subst hd
 exact wpAnyH_take hi hs hf hr hQ hy hS h
theorem callD {P:Program}{md:Region.Mode}{ops:Array Oper}{Q:Exit->Act->World->Prop}{S:World->Prop}{fuel:Nat}{listed:Array Bool}{a:Act}{w:World}(i:Nat){o:Oper}(hr:Region.ready md ops listed=[i])(ho:ops[i]? = some o)
  (h:∀K' : Act->World->Prop,Shut (∀a w,S w->(S w->wpAnyH P md ops Q S fuel (listed.setIfInBounds i true) a w)->K' a w)->if Region.wanted o (yielded ops a.tmps)=true then Oper.wp P o a w K' Q else K' (a.put o.dst undef) w) :
  wpAnyH P md ops Q S (fuel+1) listed a w :=
 wpAnyH_ready hr (by simp) (AllReadyH.cons ho h AllReadyH.nil)
theorem low_bit:∀(b m:Nat),m<=b->m≠0->∃k q,m=2 ^ k * (2 * q+1):=by
 intro b
 induction b with
 | zero=>intro m h1 h2;omega
 | succ b ih=>
  intro m h1 h2;rcases Nat.mod_two_eq_zero_or_one m with h | h
  ·obtain⟨k,q,e⟩:=ih (m / 2) oo oo
   refine⟨k+1,q,?_⟩
   have:m=2 * (m / 2):=by omega
   rw[this,e,Nat.pow_succ,Nat.mul_comm (2 ^ k) 2,Nat.mul_assoc]
  ·exact⟨0,m / 2,oo⟩
theorem bit_odd (q i:Nat):(2 * q+1).testBit i=(decide (i=0)||(2 * q).testBit i):=by
 cases i with
 | zero=>simp
 | succ i=>
  rw[Nat.testBit_succ,Nat.testBit_succ,show (2 * q+1) / 2=q by omega,show 2 * q / 2=q by omega]
  simp
theorem low_test (k q j:Nat):(2 ^ k * (2 * q+1)).testBit j=(decide (k<=j)&&(2 * q+1).testBit (j - k)):=by
 rw[Nat.mul_comm,Nat.testBit_mul_two_pow]
theorem low_and (k q:Nat)(h:2 ^ k * (2 * q+1)<65536):(2 ^ k * (2 * q+1)) &&& (65536 - 2 ^ k * (2 * q+1))=2 ^ k:=by
 have hk:k<16:=by
  rcases Nat.lt_or_ge k 16 with e | e
  ·exact e
  ·have h1:2 ^ 16<=2 ^ k:=Nat.pow_le_pow_right (by decide) e
   have h2:2 ^ k * 1<=2 ^ k * (2 * q+1):=Nat.mul_le_mul_left _ oo;omega
 have hp:2 ^ k * 2 ^ (16 - k)=65536:=by rw[<-Nat.pow_add,show k+(16 - k)=16 by omega]
 have hq:2 * q<2 ^ (16 - k):=by
  have:2 ^ k * (2 * q+1)<2 ^ k * 2 ^ (16 - k):=by rw[hp];exact h
  have:=Nat.lt_of_mul_lt_mul_left this
  omega
 have e:65536 - 2 ^ k * (2 * q+1)=2 ^ k * (2 ^ (16 - k) - (2 * q+1)):=by rw[Nat.mul_sub,hp]
 apply Nat.eq_of_testBit_eq
 intro j
 rw[Nat.testBit_and,low_test,e,Nat.mul_comm (2 ^ k) (2 ^ (16 - k) - (2 * q+1)),Nat.testBit_mul_two_pow,Nat.testBit_two_pow_sub_succ hq,bit_odd,Nat.testBit_two_pow]
 by_cases hj:k<=j
 ·by_cases h0:j - k=0
  ·have:k=j:=by omega
   subst this
   simp
   omega
  ·have h1:¬k=j:=by omega
   cases hb:(2 * q).testBit (j - k)<;>simp[h0,h1]
 ·have h1:¬k=j:=by omega
  simp[hj,h1]
def tabL:List Int:=[0,1,28,2,29,14,24,3,30,22,20,15,25,17,4,8,31,27,13,23,21,19,16,7,26,12,18,6,11,5,10,9]
def Tab (w:World):Prop:=∀i x,tabL[i]? = some x->w.cell? ⟨0,i,none⟩=some (.int .u8 x)
theorem Tab.below {b:Nat}{w w' : World}(h:Tab w)(hb:Below b w w')(h0:0<b):Tab w' := fun i x hx=>(hb.cell (p:=⟨0,i,none⟩) h0).trans (h i x hx)
theorem tz_calls (k q:Nat)(w:World)(h:2 ^ k * (2 * q+1)<65536)(hT:Tab w) :
  Calls Tryz.prog 128 #[.int .u16 ((2 ^ k * (2 * q+1):Nat):Int)] w fun e w' => e=.returned (.int .i64 (k:Int))/\w' = w:=by
 have hla:=low_and k q h
 have hpos:0<2 ^ k * (2 * q+1):=Nat.mul_pos (Nat.two_pow_pos k) oo
 obtain⟨m,hm⟩:∃m,m=2 ^ k * (2 * q+1):=⟨_,rfl⟩
 rw[<-hm] at h hla hpos ⊢
 have hne:((m:Int)==0)=false:=by rw[beq_eq_false_iff_ne];omega
 have hk:k<16:=by
  rcases Nat.lt_or_ge k 16 with e | e
  ·exact e
  ·have h1:2 ^ 16<=2 ^ k:=Nat.pow_le_pow_right (by decide) e
   have h2:m &&& 65536 - m<=m:=Nat.and_le_left;omega
 have hw:IntKind.u16.wrap (-(m:Int))=((65536 - m:Nat):Int):=by
  show (-(m:Int)) % 65536=_
  omega
 have hb:bits .and .u16 (m:Int) (IntKind.u16.wrap (-(m:Int)))=((2 ^ k:Nat):Int):=by
  rw[hw,u16_and_nat m (65536 - m) h oo,hla]
 have key:∀k:Fin 16,0<=((2 ^ k.val:Nat):Int) % 4294967296 * 125613361 % 4294967296 / 134217728/\((2 ^ k.val:Nat):Int) % 4294967296 * 125613361 % 4294967296 / 134217728<32/\tabL[(((2 ^ k.val:Nat):Int) % 4294967296 * 125613361 % 4294967296 / 134217728).toNat]? = some (k.val:Int):=by decide +kernel
 obtain⟨k1,k2,k3⟩:=key ⟨k,hk⟩
 have hc:=hT _ _ k3
 rw[<-hb] at k1 k2 hc
 have hki:(k:Int)<16:=by omega
 clear hm k3 key hla hw hb hT hpos
 go_enter Tryz.func128,Tryz.ntmps128
 go_wp2
 go_ret
 exact⟨rfl,rfl⟩
end Go.Proofs.YtjkebndkeamijaaGreatDoor
namespace Go.Proofs.YtjkebndkeamijaaGreatDoor
open Go.ChangeShapes Go.WideShapes Go.ChangeAt Go.RowKit
theorem tab_var {W : World}{r : List (String × DataW Unit)}(h : laidMet Tryz.prog (("math/bits.deBruijn32tab", Rows.laid_math_bits_deBruijn32tab) :: r) W) : Tab W := by
 obtain⟨ps,⟨g,t,cs,fuel,p,q,e1,e2,e3,e4,_⟩,_⟩:=h
 obtain rfl:=zzo (q_tab.symm.trans e1)
 obtain rfl:=zzo (q_tabT.symm.trans e2)
 obtain⟨xs,m,rfl,hx,hl,hn,he⟩:=DataW.trod_array Tryz.underlying211 e4
 have hc1:Tryz.prog.cellsOf 5=1:=by kernel_rfl
 have hd:(Rows.laid_math_bits_deBruijn32tab:DataW Unit)=DataW.agg (tabL.map (fun x=>DataW.lit (Lit.int .u8 x))):=rfl
 rw[hd] at hx
 simp only[Prod.mk.injEq,DataW.agg.injEq] at hx
 intro i x hi
 have hi32:i<32:=by have:=(zzc.1 hi).1;simpa [tabL] using this
 have h1:=he i hi32
 obtain⟨y,hy⟩:∃y,xs[i]? = some y:=⟨_,zze oo⟩
 rw[hy,hc1] at h1
 obtain⟨n,f1,f2,_⟩:=DataW.trod_int Tryz.underlying5 h1
 have h2:(xs.map (·.1))[i]? = some (DataW.lit (Lit.int .u8 x)):=by rw[<-hx.1,List.getElem?_map,hi];rfl
 rw[List.getElem?_map,hy] at h2
 simp only[Option.map_some,Option.some.injEq] at h2
 rw[f2] at h2
 simp only[DataW.lit.injEq,Lit.int.injEq,true_and] at h2
 subst h2
 rw[World.var?_cell q_tab e3 i]
 have h3:(cs.toList.drop (i * 1)).take 1=[Value.int .u8 n]:=f1
 rw[Nat.mul_one] at h3
 have h4:((cs.toList.drop i).take 1)[0]? = some (Value.int .u8 n):=by rw[h3];rfl
 rw[List.getElem?_take,if_pos (by decide),List.getElem?_drop,Nat.add_zero] at h4
 simpa using h4
theorem tab_size {W:World}(h:Tab W):0<W.heap.size:=by
 have:=h 0 0 rfl
 rcases Nat.eq_zero_or_pos W.heap.size with e | e
 ·simp[World.cell?,Array.getElem?_eq_none (Nat.le_of_eq e)] at this
 ·exact e
end Go.Proofs.YtjkebndkeamijaaGreatDoor
namespace Go.Proofs.YtjkebndkeamijaaGreatDoor
open Go.RowKit
def subs:DataW Unit->List (DataW Unit)
 | .agg [_,_,.slice ts _]=>ts
 | _=>[]
def kindT:DataW Unit->Int
 | .agg [.lit (.int _ k),_,_]=>k
 | _=>0
theorem subs_node (k:Int)(s:ByteArray)(ts:List (DataW Unit)):subs (node k s ts)=ts:=rfl
theorem kindT_node (k:Int)(s:ByteArray)(ts:List (DataW Unit)):kindT (node k s ts)=k:=rfl
def total (f:DataW Unit->Int):List (DataW Unit)->Int
 | []=>0
 | x::r=>f x+total f r
def greatest (f:DataW Unit->Int):List (DataW Unit)->Int
 | []=>0
 | x::r=>max (f x) (greatest f r)
def cnt:Nat->DataW Unit->Int
 | 0,_=>0
 | n+1,t=>1+total (cnt n) (subs t)
def dp:Nat->DataW Unit->Int
 | 0,_=>0
 | n+1,t=>greatest (dp n) (subs t)+1
theorem total_nonneg {f:DataW Unit->Int}(h:∀x,0<=f x)(l:List (DataW Unit)):0<=total f l:=by
 induction l with
 | nil=>exact Int.le_refl _
 | cons x r ih=>have:=h x;rw[total];omega
theorem k91{p:Prop}(h:p:=by
  induction n with
  | zero=>intro t;exact Int.le_refl _
  | succ n ih=>intro t;have:=total_nonneg ih (subs t);rw[cnt];omega
  ):p:=h
theorem cnt_nonneg (n:Nat):∀t,0<=cnt n t:=by
 exact k91
theorem total_take {f:DataW Unit->Int}{ts:List (DataW Unit)}{i:Nat}{x:DataW Unit}(h:ts[i]? = some x):total f (ts.take (i+1))=total f (ts.take i)+f x:=by
 induction ts generalizing i with
 | nil=>simp at h
 | cons y r ih=>
  cases i with
  | zero=>
   (obtain rfl:y=x:=by simpa using h);simp[total]
  | succ i=>
   have:=ih (i:=i) (by simpa using h)
   rw[List.take_succ_cons,List.take_succ_cons,total,total,this];omega
theorem total_part {f:DataW Unit->Int}(hf:∀x,0<=f x)(ts:List (DataW Unit))(i:Nat):total f (ts.take i)<=total f ts:=by
 induction ts generalizing i with
 | nil=>simp
 | cons y r ih=>
  cases i with
  | zero=>exact total_nonneg hf _
  | succ i=>have:=ih i;rw[List.take_succ_cons,total,total];omega
theorem total_mem {f:DataW Unit->Int}(hf:∀x,0<=f x){ts:List (DataW Unit)}{x:DataW Unit}(h:x∈ts):f x<=total f ts:=by
 induction ts with
 | nil=>cases h
 | cons y r ih=>
  have h1:=total_nonneg hf r;have h2:=hf y;rw[total];rcases List.mem_cons.1 h with rfl | h
  ·omega
  ·have:=ih h;omega
theorem greatest_take {f:DataW Unit->Int}{ts:List (DataW Unit)}{i:Nat}{x:DataW Unit}(h:ts[i]? = some x)(hf:∀x,0<=f x):greatest f (ts.take (i+1))=max (greatest f (ts.take i)) (f x):=by
 induction ts generalizing i with
 | nil=>simp at h
 | cons y r ih=>
  cases i with
  | zero=>
   obtain rfl:y=x:=by simpa using h
   have:=hf y
   simp only[List.take_succ_cons,List.take_zero,greatest];omega
  | succ i=>
   have:=ih (i:=i) (by simpa using h)
   rw[List.take_succ_cons,List.take_succ_cons,greatest,greatest,this];omega
theorem greatest_nonneg (f:DataW Unit->Int)(l:List (DataW Unit)):0<=greatest f l:=by
 induction l with
 | nil=>exact Int.le_refl _
 | cons x r ih=>rw[greatest];omega
theorem dp_nonneg (n:Nat):∀t,0<=dp n t:=by
 cases n with
 | zero=>intro t;exact Int.le_refl _
 | succ n=>intro t;have:=greatest_nonneg (dp n) (subs t);rw[dp];omega
theorem greatest_total {f g:DataW Unit->Int}(h:∀x,f x<=g x)(hg:∀x,0<=g x)(l:List (DataW Unit)):greatest f l<=total g l:=by
 induction l with
 | nil=>exact Int.le_refl _
 | cons x r ih=>
  have h1:=h x;have h2:=hg x;have h3:=total_nonneg hg r;rw[greatest,total];omega
theorem dp_cnt (n:Nat):∀t,dp n t<=cnt n t:=by
 induction n with
 | zero=>intro t;exact Int.le_refl _
 | succ n ih=>intro t;have:=greatest_total ih (cnt_nonneg n) (subs t);rw[dp,cnt];omega
theorem one_kept {w W:World}{x0 x1 x2:Value}{T:TypeId}(hB:Below (w.alloc (.cells #[x0,x1,x2] T)).heap.size (w.alloc (.cells #[x0,x1,x2] T)) W) :
  W.cell? ⟨w.heap.size,0,none⟩=some x0/\W.cell? ⟨w.heap.size,1,none⟩=some x1/\W.cell? ⟨w.heap.size,2,none⟩=some x2/\Below w.heap.size w W:=by
 refine⟨?_,?_,?_,?_⟩
 ·rw[hB.cell (p:=⟨w.heap.size,0,none⟩) (by simp)]
  simp
 ·rw[hB.cell (p:=⟨w.heap.size,1,none⟩) (by simp)]
  simp
 ·rw[hB.cell (p:=⟨w.heap.size,2,none⟩) (by simp)]
  simp
 ·exact((zzd _ w).alloc (zzb _) _).trans (hB.mono (by simp))
def letter (c:UInt8):Bool:=decide (97<=c.toNat)&&decide (c.toNat<=122)
def letters (s:ByteArray):Bool:=s.toList.all letter && !s.toList.isEmpty
theorem toList_at (s:ByteArray)(i:Nat)(h:i<s.size):s.toList[i]? = some (s[i]'h):=by
 rw[ByteArray.toList_eq,Array.getElem?_toList]
 exact Array.getElem?_eq_getElem h
theorem toList_length (s:ByteArray):s.toList.length=s.size:=by
 rw[ByteArray.toList_eq,Array.length_toList]
 rfl
theorem all_take {s:ByteArray}{i:Nat}(h:i<s.size):(s.toList.take (i+1)).all letter=((s.toList.take i).all letter&&letter (s[i]'h)):=by
 rw[List.take_add_one,toList_at s i h,List.all_append]
 simp
def shapely (k:Int)(s:ByteArray)(ts:List (DataW Unit)):Bool :=
 if k=0 then s.toList.isEmpty&&ts.length==0
 else if k=1 then letters s&&ts.length==0
 else if k=4\/k=5\/k=6 then s.toList.isEmpty&&ts.length==1
 else if k=2\/k=3 then ts.all (fun x => !(kindT x==k))&&(s.toList.isEmpty&&decide (2<=ts.length))
 else false
def nameT:DataW Unit->ByteArray
 | .agg [_,.lit (.string l),_]=>⟨l.toArray⟩
 | _=>⟨#[]⟩
theorem nameT_node (k:Int)(s:ByteArray)(ts:List (DataW Unit)):nameT (node k s ts)=s:=by
 show (⟨s.data.toList.toArray⟩:ByteArray)=s
 rw[Array.toArray_toList]
def rightE:Nat->DataW Unit->Bool
 | 0,_=>false
 | n+1,t=>(subs t).all (fun x => !(kindT x==0)&&rightE n x)&&shapely (kindT t) (nameT t) (subs t)
theorem all_step {p:DataW Unit->Bool}{ts:List (DataW Unit)}{i:Nat}{x:DataW Unit}(h:ts[i]? = some x):(ts.take (i+1)).all p=((ts.take i).all p&&p x):=by
 rw[List.take_add_one,h,List.all_append]
 simp
theorem k96{p:Prop}(h:p:=by
  cases ha:ts.all p with
  | false=>rfl
  | true=>
   have:=List.all_eq_true.1 ha x (zzj h)
   rw[hp] at this;cases this
  ):p:=h
theorem all_not {p:DataW Unit->Bool}{ts:List (DataW Unit)}{i:Nat}{x:DataW Unit}(h:ts[i]? = some x)(hp:p x=false):ts.all p=false:=by
 exact k96
theorem ex_kind {w:World}{n:Nat}{x:DataW Unit}{k:Int}{s:ByteArray}{a:Option Addr}{len cap:Nat}(h:Ex w n x (.agg #[.int .i64 k,.string s,.slice a len cap])):kindT x=k:=by
 cases n with
 | zero=>exact h.elim
 | succ n=>
  obtain⟨k', s', a', len', cap', ts', rfl,e,_⟩:=h;cases e
  rfl
theorem int_beq (i m:Nat):((i==m):Bool)=((i:Int)==(m:Int)):=by rw[Bool.eq_iff_iff];simp;omega
theorem int_le (i:Nat):decide (2<=i)=decide ((2:Int)<=(i:Int)):=by rw[Bool.eq_iff_iff];simp;omega
def named:Nat->DataW Unit->Prop
 | 0,_=>True
 | n+1,t=>(nameT t).size<=9223372036854775807/\∀x∈subs t,named n x
def checkE (n:Nat)(t:DataW Unit):Int:=if 200<cnt n t\/60<dp n t then 2 else if rightE n t=true then 0 else 4
def lett (c:Int):Bool:=decide (97<=c)&&decide (c<=122)
theorem k95{p:Prop}(h:p:=by
  go_enter Tryz.func187,Tryz.ntmps187;go_wp2;go_ret;exact⟨by first | rfl | simp[h1],rfl⟩
  ):p:=h
theorem isletter_calls (c:Int)(w:World):Calls Tryz.prog 187 #[.int .u8 c] w fun r w' => r=.returned (.bool (lett c))/\w' = w:=by
 unfold lett
 by_cases h1:97<=c
 ·exact k95
 ·have h2:decide (97<=c)=false:=by simpa using h1
  exact k95
def bts (s:ByteArray):List UInt8:=s.data.toList
theorem bts_toList (s:ByteArray):s.toList=bts s:=ByteArray.toList_eq s
end Go.Proofs.YtjkebndkeamijaaGreatDoor
