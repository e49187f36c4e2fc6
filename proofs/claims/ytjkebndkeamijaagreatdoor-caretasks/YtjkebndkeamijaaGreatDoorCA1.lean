/-
  PROVED HERE: what the texts DAAl, DATree, DADefs say.
-/
import Derived.Test.YtjkebndkeamijaaGreatDoorProg
import Derived.WalkKit
import Derived.Below
import Derived.Laws.Rows
import Derived.Deep.Light
import Derived.BigQuiet
import Derived.Deep.QuietTactic
import Derived.RegionTactic
import Derived.BigRegion
import Derived.Deep.RegionWith
import Derived.Deep.RegionHeld3
import GoSem.Claim
import Derived.Laws.Strings
import Derived.WalkSmall
set_option maxRecDepth 100000
set_option maxHeartbeats 2000000
namespace Go.Proofs.YtjkebndkeamijaaGreatDoor
open Go.RowKit
abbrev zza := @Array.getElem?_eq_some_iff
abbrev zzb := @Nat.le_refl
abbrev zzc := @List.getElem?_eq_some_iff
abbrev zzd := @Below.refl
abbrev zze := @List.getElem?_eq_getElem
abbrev zzf := @Below.heap_alloc
abbrev zzg := @List.mem_cons_self
abbrev zzh := @Below.heap_setCell
abbrev zzi := @World.cell?_of_block
abbrev zzj := @List.mem_of_getElem?
abbrev zzk := @List.mem_cons_of_mem
abbrev zzl := @Nat.lt_of_lt_of_le
abbrev zzm := @List.take_of_length_le
abbrev zzn := @Nat.zero_le
abbrev zzo := @Option.some.inj
theorem oo{p:Prop}(h:p:=by omega):p:=h
theorem kr{p:Prop}(h:p:=by kernel_rfl):p:=h
def node (k:Int)(s:ByteArray)(ts:List (DataW Unit)):DataW Unit:=.agg [.lit (.int .i64 k),.lit (.string s.data.toList),.slice ts []]
theorem gAy {k k' : Int}{s s' : ByteArray}{ts ts' : List (DataW Unit)}:node k s ts=node k' s' ts' ↔ k=k' /\ s=s' /\ ts=ts' := by
 unfold node
 simp only[DataW.agg.injEq,List.cons.injEq,DataW.lit.injEq,Lit.int.injEq,Lit.string.injEq,DataW.slice.injEq,and_true,true_and]
 constructor
 ·rintro⟨h1,h2,h3⟩
  refine⟨h1,?_,h3⟩;apply ByteArray.ext;exact Array.toList_inj.1 h2
 ·rintro⟨rfl,rfl,rfl⟩
  exact⟨rfl,rfl,rfl⟩
def Ex (w:World):Nat->DataW Unit->Value->Prop
 | 0,_,_=>False
 | n+1,t,v=>∃(k:Int) (s:ByteArray) (a:Option Addr) (len cap:Nat) (ts:List (DataW Unit)),t=node k s ts/\v=.agg #[.int .i64 k,.string s,.slice a len cap]/\ts.length=len/\len<=9223372036854775807 ∧
   (len=0\/∃b o,a=some ⟨b,o,none⟩/\b<w.heap.size/\∀i x,ts[i]? = some x->∃(k' : Int) (s' : ByteArray) (a' : Option Addr) (len' cap' : Nat),
    w.cell? ⟨b,o+i * 3,none⟩=some (.int .i64 k')/\w.cell? ⟨b,o+i * 3+1,none⟩=some (.string s')/\w.cell? ⟨b,o+i * 3+2,none⟩=some (.slice a' len' cap')/\Ex w n x (.agg #[.int .i64 k', .string s', .slice a' len' cap']))
theorem Ex.below {w w' : World}(hb:Below w.heap.size w w'):∀(n:Nat) (t:DataW Unit) (v:Value),Ex w n t v->Ex w' n t v:=by
 intro n
 induction n with
 | zero=>intro t v h;exact h
 | succ n ih=>
  rintro t v ⟨k,s,a,len,cap,ts,h1,h2,h3,h4,h5⟩;refine⟨k,s,a,len,cap,ts,h1,h2,h3,h4,?_⟩;rcases h5 with h5 | ⟨b,o,rfl,hlt,hc⟩
  ·exact .inl h5
  ·refine .inr ⟨b,o,rfl,zzl hlt hb.size,fun i x hx=>?_⟩
   obtain⟨k', s', a', len', cap', c0,c1,c2,c3⟩:=hc i x hx;exact⟨k', s', a', len', cap', (hb.cell (p:=⟨b,_,none⟩) hlt).trans c0,(hb.cell (p:=⟨b,_,none⟩) hlt).trans c1,(hb.cell (p:=⟨b,_,none⟩) hlt).trans c2,ih _ _ c3⟩
theorem pM {w:World}{n len:Nat}{a:Option Addr}{ts:List (DataW Unit)}(hl:ts.length=len)(h:len=0\/∃b o,a=some ⟨b,o,none⟩/\b<w.heap.size/\∀i x,ts[i]? = some x->∃(k' : Int) (s' : ByteArray) (a' : Option Addr) (len' cap' : Nat),
    w.cell? ⟨b,o+i * 3,none⟩=some (.int .i64 k')/\w.cell? ⟨b,o+i * 3+1,none⟩=some (.string s')/\w.cell? ⟨b,o+i * 3+2,none⟩=some (.slice a' len' cap')/\Ex w n x (.agg #[.int .i64 k', .string s', .slice a' len' cap']))
  {i:Nat} (hi:i<len):∃b o x k' s' a' len' cap', a=some ⟨b,o,none⟩/\b<w.heap.size/\ts[i]? = some x/\∀W:World,Below w.heap.size w W →
   W.cell? ⟨b,o+i * 3,none⟩=some (.int .i64 k')/\W.cell? ⟨b,o+i * 3+1,none⟩=some (.string s')/\W.cell? ⟨b,o+i * 3+2,none⟩=some (.slice a' len' cap')/\Ex W n x (.agg #[.int .i64 k', .string s', .slice a' len' cap']):=by
 rcases h with h | ⟨b,o,rfl,hlt,hc⟩
 ·omega
 ·have hx:ts[i]? = some (ts[i]'(by omega)):=zze oo
  obtain⟨k', s', a', len', cap', c0,c1,c2,c3⟩:=hc i _ hx;exact⟨b,o,_,k', s', a', len', cap', rfl,hlt,hx,fun W hb=>⟨(hb.cell (p:=⟨b,_,none⟩) hlt).trans c0,(hb.cell (p:=⟨b,_,none⟩) hlt).trans c1,(hb.cell (p:=⟨b,_,none⟩) hlt).trans c2,Ex.below hb _ _ _ c3⟩⟩
theorem nJ {P:Program}{md:Region.Mode}{ops:Array Oper}{Q:Exit->Act->World->Prop}{S:World->Prop}{fuel:Nat}{listed:Array Bool}{a:Act}{w:World}(i:Nat)(d:Option Tmp){oi:Oper}{v:Value}(hi:ops[i]? = some oi)(hd:oi.dst=d)
  (hs:Region.noSelect ops=true) (hf:Region.free md ops listed i=true) (hr:(Region.ready md ops listed).contains i=true) (hQ:∀c a w,Q (.panic c) (a.put d v) w->Q (.panic c) a w) (hy:YieldsIf P ops S oi v a) (hS:S w)
  (h:wpAnyH P md ops Q S fuel (listed.setIfInBounds i true) (a.put d v) w):wpAnyH P md ops Q S (fuel+1) listed a w:=by
 subst hd
 exact wpAnyH_take hi hs hf hr hQ hy hS h
theorem gT {P:Program}{md:Region.Mode}{ops:Array Oper}{Q:Exit->Act->World->Prop}{S:World->Prop}{fuel:Nat}{listed:Array Bool}{a:Act}{w:World}(i:Nat){o:Oper}(hr:Region.ready md ops listed=[i])(ho:ops[i]? = some o)
  (h:∀K' : Act->World->Prop,Shut (∀a w,S w->(S w->wpAnyH P md ops Q S fuel (listed.setIfInBounds i true) a w)->K' a w)->if Region.wanted o (yielded ops a.tmps)=true then Oper.wp P o a w K' Q else K' (a.put o.dst undef) w) :
  wpAnyH P md ops Q S (fuel+1) listed a w :=
 wpAnyH_ready hr (by simp) (AllReadyH.cons ho h AllReadyH.nil)
def subs:DataW Unit->List (DataW Unit)
 | .agg [_,_,.slice ts _]=>ts
 | _=>[]
def iE:DataW Unit->Int
 | .agg [.lit (.int _ k),_,_]=>k
 | _=>0
theorem iC (k:Int)(s:ByteArray)(ts:List (DataW Unit)):subs (node k s ts)=ts:=rfl
theorem iN (k:Int)(s:ByteArray)(ts:List (DataW Unit)):iE (node k s ts)=k:=rfl
def iX (f:DataW Unit->Int):List (DataW Unit)->Int
 | []=>0
 | x::r=>f x+iX f r
def iK (f:DataW Unit->Int):List (DataW Unit)->Int
 | []=>0
 | x::r=>max (f x) (iK f r)
def cnt:Nat->DataW Unit->Int
 | 0,_=>0
 | n+1,t=>1+iX (cnt n) (subs t)
def dp:Nat->DataW Unit->Int
 | 0,_=>0
 | n+1,t=>iK (dp n) (subs t)+1
theorem oT {f:DataW Unit->Int}(h:∀x,0<=f x)(l:List (DataW Unit)):0<=iX f l:=by
 induction l with
 | nil=>exact Int.le_refl _
 | cons x r ih=>have:=h x;rw[iX];omega
theorem k113{p:Prop}(h:p:=by
  induction n with
  | zero=>intro t;exact Int.le_refl _
  | succ n ih=>intro t;have:=oT ih (subs t);rw[cnt];omega
  ):p:=h
theorem pN (n:Nat):∀t,0<=cnt n t:=by
 exact k113
theorem gFd {f:DataW Unit->Int}{ts:List (DataW Unit)}{i:Nat}{x:DataW Unit}(h:ts[i]? = some x):iX f (ts.take (i+1))=iX f (ts.take i)+f x:=by
 induction ts generalizing i with
 | nil=>simp at h
 | cons y r ih=>
  cases i with
  | zero=>
   (obtain rfl:y=x:=by simpa using h);simp[iX]
  | succ i=>
   have:=ih (i:=i) (by simpa using h)
   rw[List.take_succ_cons,List.take_succ_cons,iX,iX,this];omega
theorem gFe {f:DataW Unit->Int}(hf:∀x,0<=f x)(ts:List (DataW Unit))(i:Nat):iX f (ts.take i)<=iX f ts:=by
 induction ts generalizing i with
 | nil=>simp
 | cons y r ih=>
  cases i with
  | zero=>exact oT hf _
  | succ i=>have:=ih i;rw[List.take_succ_cons,iX,iX];omega
theorem gVk {f:DataW Unit->Int}(hf:∀x,0<=f x){ts:List (DataW Unit)}{x:DataW Unit}(h:x∈ts):f x<=iX f ts:=by
 induction ts with
 | nil=>cases h
 | cons y r ih=>
  have h1:=oT hf r;have h2:=hf y;rw[iX];rcases List.mem_cons.1 h with rfl | h
  ·omega
  ·have:=ih h;omega
theorem zF {f:DataW Unit->Int}{ts:List (DataW Unit)}{i:Nat}{x:DataW Unit}(h:ts[i]? = some x)(hf:∀x,0<=f x):iK f (ts.take (i+1))=max (iK f (ts.take i)) (f x):=by
 induction ts generalizing i with
 | nil=>simp at h
 | cons y r ih=>
  cases i with
  | zero=>
   obtain rfl:y=x:=by simpa using h
   have:=hf y
   simp only[List.take_succ_cons,List.take_zero,iK];omega
  | succ i=>
   have:=ih (i:=i) (by simpa using h)
   rw[List.take_succ_cons,List.take_succ_cons,iK,iK,this];omega
theorem nR (f:DataW Unit->Int)(l:List (DataW Unit)):0<=iK f l:=by
 induction l with
 | nil=>exact Int.le_refl _
 | cons x r ih=>rw[iK];omega
theorem gJn (n:Nat):∀t,0<=dp n t:=by
 cases n with
 | zero=>intro t;exact Int.le_refl _
 | succ n=>intro t;have:=nR (dp n) (subs t);rw[dp];omega
theorem wT {f g:DataW Unit->Int}(h:∀x,f x<=g x)(hg:∀x,0<=g x)(l:List (DataW Unit)):iK f l<=iX g l:=by
 induction l with
 | nil=>exact Int.le_refl _
 | cons x r ih=>
  have h1:=h x;have h2:=hg x;have h3:=oT hg r;rw[iK,iX];omega
theorem hGm (n:Nat):∀t,dp n t<=cnt n t:=by
 induction n with
 | zero=>intro t;exact Int.le_refl _
 | succ n ih=>intro t;have:=wT ih (pN n) (subs t);rw[dp,cnt];omega
theorem lT {w W:World}{x0 x1 x2:Value}{T:TypeId}(hB:Below (w.alloc (.cells #[x0,x1,x2] T)).heap.size (w.alloc (.cells #[x0,x1,x2] T)) W) :
  W.cell? ⟨w.heap.size,0,none⟩=some x0/\W.cell? ⟨w.heap.size,1,none⟩=some x1/\W.cell? ⟨w.heap.size,2,none⟩=some x2/\Below w.heap.size w W:=by
 refine⟨?_,?_,?_,?_⟩
 ·rw[hB.cell (p:=⟨w.heap.size,0,none⟩) (by simp)]
  simp
 ·rw[hB.cell (p:=⟨w.heap.size,1,none⟩) (by simp)]
  simp
 ·rw[hB.cell (p:=⟨w.heap.size,2,none⟩) (by simp)]
  simp
 ·exact((zzd _ w).alloc (zzb _) _).trans (hB.mono (by simp))
def gH (c:UInt8):Bool:=decide (97<=c.toNat)&&decide (c.toNat<=122)
def jJ (s:ByteArray):Bool:=s.toList.all gH && !s.toList.isEmpty
theorem pU (s:ByteArray)(i:Nat)(h:i<s.size):s.toList[i]? = some (s[i]'h):=by
 rw[ByteArray.toList_eq,Array.getElem?_toList]
 exact Array.getElem?_eq_getElem h
theorem kZ (s:ByteArray):s.toList.length=s.size:=by
 rw[ByteArray.toList_eq,Array.length_toList]
 rfl
theorem gQf {s:ByteArray}{i:Nat}(h:i<s.size):(s.toList.take (i+1)).all gH=((s.toList.take i).all gH&&gH (s[i]'h)):=by
 rw[List.take_add_one,pU s i h,List.all_append]
 simp
def nN (k:Int)(s:ByteArray)(ts:List (DataW Unit)):Bool :=
 if k=0 then s.toList.isEmpty&&ts.length==0
 else if k=1 then jJ s&&ts.length==0
 else if k=4\/k=5\/k=6 then s.toList.isEmpty&&ts.length==1
 else if k=2\/k=3 then ts.all (fun x => !(iE x==k))&&(s.toList.isEmpty&&decide (2<=ts.length))
 else false
def nV:DataW Unit->ByteArray
 | .agg [_,.lit (.string l),_]=>⟨l.toArray⟩
 | _=>⟨#[]⟩
theorem kT (k:Int)(s:ByteArray)(ts:List (DataW Unit)):nV (node k s ts)=s:=by
 show (⟨s.data.toList.toArray⟩:ByteArray)=s
 rw[Array.toArray_toList]
def jN:Nat->DataW Unit->Bool
 | 0,_=>false
 | n+1,t=>(subs t).all (fun x => !(iE x==0)&&jN n x)&&nN (iE t) (nV t) (subs t)
theorem gBs {p:DataW Unit->Bool}{ts:List (DataW Unit)}{i:Nat}{x:DataW Unit}(h:ts[i]? = some x):(ts.take (i+1)).all p=((ts.take i).all p&&p x):=by
 rw[List.take_add_one,h,List.all_append]
 simp
theorem k119{p:Prop}(h:p:=by
  cases ha:ts.all p with
  | false=>rfl
  | true=>
   have:=List.all_eq_true.1 ha x (zzj h)
   rw[hp] at this;cases this
  ):p:=h
theorem gBt {p:DataW Unit->Bool}{ts:List (DataW Unit)}{i:Nat}{x:DataW Unit}(h:ts[i]? = some x)(hp:p x=false):ts.all p=false:=by
 exact k119
theorem gEv {w:World}{n:Nat}{x:DataW Unit}{k:Int}{s:ByteArray}{a:Option Addr}{len cap:Nat}(h:Ex w n x (.agg #[.int .i64 k,.string s,.slice a len cap])):iE x=k:=by
 cases n with
 | zero=>exact h.elim
 | succ n=>
  obtain⟨k', s', a', len', cap', ts', rfl,e,_⟩:=h;cases e
  rfl
theorem gBi (i m:Nat):((i==m):Bool)=((i:Int)==(m:Int)):=by rw[Bool.eq_iff_iff];simp;omega
theorem gTd (i:Nat):decide (2<=i)=decide ((2:Int)<=(i:Int)):=by rw[Bool.eq_iff_iff];simp;omega
def oG:Nat->DataW Unit->Prop
 | 0,_=>True
 | n+1,t=>(nV t).size<=9223372036854775807/\∀x∈subs t,oG n x
def kU (n:Nat)(t:DataW Unit):Int:=if 200<cnt n t\/60<dp n t then 2 else if jN n t=true then 0 else 4
def pL (c:Int):Bool:=decide (97<=c)&&decide (c<=122)
theorem k118{p:Prop}(h:p:=by
  go_enter Tryz.func187,Tryz.ntmps187;go_wp2;go_ret;exact⟨by first | rfl | simp[h1],rfl⟩
  ):p:=h
theorem tC (c:Int)(w:World):Calls Tryz.prog 187 #[.int .u8 c] w fun r w' => r=.returned (.bool (pL c))/\w' = w:=by
 unfold pL
 by_cases h1:97<=c
 ·exact k118
 ·have h2:decide (97<=c)=false:=by simpa using h1
  exact k118
def bts (s:ByteArray):List UInt8:=s.data.toList
theorem kV (s:ByteArray):s.toList=bts s:=ByteArray.toList_eq s
end Go.Proofs.YtjkebndkeamijaaGreatDoor
