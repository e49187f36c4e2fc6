/-
  PROVED HERE: a plain parser of expressions, what it reads, and the memory that the program reads a text with.
-/
import Derived.Test.YtjkebndkeamijaaGreatDoorCA1
import Derived.Laws.Concat
import Derived.Deep.LoopGhost
import Derived.OwnWalkIn
import Derived.Maps.AppendAt
import Derived.ProofKit
import Derived.Laws.Tables
import Derived.Laws.CopyOwn
import Derived.Laws.ResultCell
set_option maxRecDepth 100000
set_option maxHeartbeats 2000000
namespace Go.Proofs.YtjkebndkeamijaaGreatDoor
open Go.RowKit
end Go.Proofs.YtjkebndkeamijaaGreatDoor
/- Plain: a plain parser, and that it reads the text of a right tree as the tree. -/
namespace Go.Proofs.YtjkebndkeamijaaGreatDoor
open Go.RowKit
def jX:List UInt8->List UInt8
 | []=>[]
 | c::r=>if c=32 then jX r else c::r
def jL (c:UInt8):Int:=if c=42 then 4 else if c=43 then 5 else if c=63 then 6 else 0
def iY:DataW Unit->List UInt8->DataW Unit×List UInt8
 | t,[]=>(t,[])
 | t,c::r=>if c=32 then iY t r else if jL c=0 then (t,c::r) else iY (node (jL c) ⟨#[]⟩ [t]) r
def jK (k:Int):List (DataW Unit)->List (DataW Unit)
 | []=>[]
 | x::l=>(if iE x=k then subs x else [x])++jK k l
def jV (k:Int):List (DataW Unit)->DataW Unit
 | [x]=>x
 | l=>node k ⟨#[]⟩ (jK k l)
def iB (alt:List UInt8->Option (DataW Unit)×List UInt8)(r:List UInt8):Option (DataW Unit)×List UInt8 :=
 match jX r with
 | []=>(none,[])
 | c::q=>
  if gH c=true then
   (some (iY (node 1 ⟨((c::q).takeWhile gH).toArray⟩ []) ((c::q).dropWhile gH)).1,(iY (node 1 ⟨((c::q).takeWhile gH).toArray⟩ []) ((c::q).dropWhile gH)).2)
  else if c=40 then
   match alt q with
   | (none,q')=>(none,q')
   | (some _,[])=>(none,[])
   | (some t,d::q')=>if d=41 then (some (iY t q').1,(iY t q').2) else (none,d::q')
  else (none,c::q)
def jY (mG:List UInt8->Option (DataW Unit)×List UInt8):Nat->List (DataW Unit)->List UInt8->Option (List (DataW Unit))×List UInt8
 | 0,_,r=>(none,r)
 | _+1,l,[]=>(some l,[])
 | f+1,l,c::q=>
  if c=124\/c=41 then (some l,c::q)
  else
   match mG (c::q) with
   | (none,r')=>(none,r')
   | (some t,r')=>jY mG f (l++[t]) r'
def lD (mG:List UInt8->Option (DataW Unit)×List UInt8)(r:List UInt8):Option (DataW Unit)×List UInt8 :=
 match mG r with
 | (none,r')=>(none,r')
 | (some t,r')=>((jY mG (r'.length+1) [t] r').1.map (jV 2),(jY mG (r'.length+1) [t] r').2)
def kG (seq:List UInt8->Option (DataW Unit)×List UInt8):Nat->List (DataW Unit)->List UInt8->Option (List (DataW Unit))×List UInt8
 | 0,_,r=>(none,r)
 | _+1,l,[]=>(some l,[])
 | f+1,l,c::q=>
  if c=124 then
   match seq q with
   | (none,r')=>(none,r')
   | (some t,r')=>kG seq f (l++[t]) r'
  else (some l,c::q)
def rM (seq:List UInt8->Option (DataW Unit)×List UInt8)(r:List UInt8):Option (DataW Unit)×List UInt8 :=
 match seq r with
 | (none,r')=>(none,r')
 | (some t,r')=>((kG seq (r'.length+1) [t] r').1.map (jV 3),(kG seq (r'.length+1) [t] r').2)
def gZ:Nat->List UInt8->Option (DataW Unit)×List UInt8
 | 0,r=>(none,jX r)
 | n+1,r=>rM (lD (iB (gZ n))) r
theorem hAx (s:ByteArray):(⟨(bts s).toArray⟩:ByteArray)=s:=by
 unfold bts
 rw[Array.toArray_toList]
theorem uZ:∀(r:List UInt8) (c:UInt8) (q:List UInt8),jX r=c::q->c≠32:=by
 intro r
 induction r with
 | nil=>intro c q h;cases h
 | cons d r ih=>
  intro c q h;rw[jX] at h
  split at h
  ·exact ih c q h
  ·cases h;assumption
end Go.Proofs.YtjkebndkeamijaaGreatDoor
/- Back: the plain parser reads the text of a right tree as the tree. -/
namespace Go.Proofs.YtjkebndkeamijaaGreatDoor
open Go.RowKit
end Go.Proofs.YtjkebndkeamijaaGreatDoor
/- Longer: the plain parser at a text with more behind it; how many brackets it may ask for says nothing. -/
namespace Go.Proofs.YtjkebndkeamijaaGreatDoor
open Go.RowKit
theorem tU:∀(l:List UInt8),(jX l).length<=l.length:=by
 intro l
 induction l with
 | nil=>exact zzb _
 | cons d l ih=>
  rw[jX]
  split
  ·exact Nat.le_succ_of_le ih
  ·exact zzb _
theorem gAo:∀(l:List UInt8) (t:DataW Unit),(iY t l).2.length<=l.length:=by
 intro l
 induction l with
 | nil=>intro t;exact zzb _
 | cons d l ih=>
  intro t;rw[iY]
  split
  ·exact Nat.le_succ_of_le (ih _)
  ·split
   ·exact zzb _
   ·exact Nat.le_succ_of_le (ih _)
def Shr (f:List UInt8->Option (DataW Unit)×List UInt8):Prop:=∀s t q,f s=(some t,q)->q.length<s.length
theorem gAk:∀s:List UInt8,(s.dropWhile gH).length<=s.length:=by
 intro s
 induction s with
 | nil=>exact zzb _
 | cons c s ih=>
  by_cases hc:gH c=true
  ·rw[List.dropWhile_cons_of_pos hc];exact Nat.le_succ_of_le ih
  ·rw[List.dropWhile_cons_of_neg hc];exact zzb _
theorem gAv {alt:List UInt8->Option (DataW Unit)×List UInt8}(ha:Shr alt):Shr (iB alt):=by
 intro s t q h
 unfold iB at h
 have hL:=tU s
 match hs:jX s with
 | []=>rw[hs] at h;cases h
 | c::p=>
  rw[hs] at h hL;simp only at h;rw[List.length_cons] at hL
  by_cases hl:gH c=true
  ·rw[if_pos hl] at h
   cases h;rw[List.dropWhile_cons_of_pos hl];have h1:=gAk p;have h2:=gAo (p.dropWhile gH) (node 1 ⟨((c::p).takeWhile gH).toArray⟩ []);omega
  ·rw[if_neg hl] at h
   by_cases h40:c=40
   ·rw[if_pos h40] at h
    match hp:alt p with
    | (none,p')=>rw[hp] at h;cases h
    | (some u,[])=>rw[hp] at h;cases h
    | (some u,d::p')=>
     rw[hp] at h;have h1:=ha p u _ hp;rw[List.length_cons] at h1;simp only at h
     by_cases h41:d=41
     ·rw[if_pos h41] at h
      cases h;have h2:=gAo p' u;omega
     ·rw[if_neg h41] at h
      cases h
   ·rw[if_neg h40] at h
    cases h
theorem gEj {mG:List UInt8->Option (DataW Unit)×List UInt8}(hs:Shr mG):∀(F:Nat) (l l' : List (DataW Unit)) (s q:List UInt8),jY mG F l s=(some l', q)->q.length<=s.length:=by
 intro F
 induction F with
 | zero=>intro l l' s q h;cases h
 | succ F ih=>
  intro l l' s q h;cases s with
  | nil=>cases h;exact zzb _
  | cons c s=>
   rw[jY] at h
   split at h
   ·cases h;exact zzb _
   ·match hx:mG (c::s) with
    | (none,s')=>rw[hx] at h;cases h
    | (some t,s')=>
     rw[hx] at h;have h1:=ih _ _ _ _ h;have h2:=hs _ _ _ hx;omega
theorem gEp {seq:List UInt8->Option (DataW Unit)×List UInt8}(hs:Shr seq):∀(F:Nat) (l l' : List (DataW Unit)) (s q:List UInt8),kG seq F l s=(some l', q)->q.length<=s.length:=by
 intro F
 induction F with
 | zero=>intro l l' s q h;cases h
 | succ F ih=>
  intro l l' s q h;cases s with
  | nil=>cases h;exact zzb _
  | cons c s=>
   rw[kG] at h
   split at h
   ·match hx:seq s with
    | (none,s')=>rw[hx] at h;cases h
    | (some t,s')=>
     rw[hx] at h;have h1:=ih _ _ _ _ h;have h2:=hs _ _ _ hx;rw[List.length_cons];omega
   ·cases h;exact zzb _
theorem gUf {mG:List UInt8->Option (DataW Unit)×List UInt8}(hs:Shr mG):Shr (lD mG):=by
 intro s t q h
 unfold lD at h
 match hx:mG s with
 | (none,s')=>rw[hx] at h;cases h
 | (some u,s')=>
  rw[hx] at h;have h1:=hs _ _ _ hx;simp only at h
  match hy:jY mG (s'.length+1) [u] s' with
  | (none,p)=>rw[hy] at h;cases h
  | (some l,p)=>
   rw[hy] at h;cases h;have h2:=gEj hs _ _ _ _ _ hy;exact Nat.lt_of_le_of_lt h2 h1
theorem hFk {seq:List UInt8->Option (DataW Unit)×List UInt8}(hs:Shr seq):Shr (rM seq):=by
 intro s t q h
 unfold rM at h
 match hx:seq s with
 | (none,s')=>rw[hx] at h;cases h
 | (some u,s')=>
  rw[hx] at h;have h1:=hs _ _ _ hx;simp only at h
  match hy:kG seq (s'.length+1) [u] s' with
  | (none,p)=>rw[hy] at h;cases h
  | (some l,p)=>
   rw[hy] at h;cases h;have h2:=gEp hs _ _ _ _ _ hy;exact Nat.lt_of_le_of_lt h2 h1
theorem gHi:∀n,Shr (gZ n):=by
 intro n
 induction n with
 | zero=>intro s t q h;cases h
 | succ n ih=>exact hFk (gUf (gAv ih))
end Go.Proofs.YtjkebndkeamijaaGreatDoor
/- jZ: what the plain parser makes of a text: blanks gB it say nothing, nor do brackets; parts and choices; signs behind. -/
namespace Go.Proofs.YtjkebndkeamijaaGreatDoor
open Go.RowKit
def gBz (K:Nat)(f g:List UInt8->Option (DataW Unit)×List UInt8):Prop:=∀s,s.length<K->f s=g s
theorem gSg {K:Nat}{f g:List UInt8->Option (DataW Unit)×List UInt8}(h:gBz K f g):gBz (K+1) (iB f) (iB g):=by
 intro s hs
 unfold iB
 have hL:=tU s
 match hk:jX s with
 | []=>rfl
 | c::p=>
  rw[hk,List.length_cons] at hL;simp only[h p oo]
theorem gFp {K:Nat}{f g:List UInt8->Option (DataW Unit)×List UInt8}(h:gBz K f g)(hs:Shr f):∀(F:Nat) (l:List (DataW Unit)) (s:List UInt8),s.length<K->jY f F l s=jY g F l s:=by
 intro F
 induction F with
 | zero=>intro l s _;rfl
 | succ F ih=>
  intro l s hK;cases s with
  | nil=>rfl
  | cons c s=>
   rw[jY,jY,<-h _ hK]
   split
   ·rfl
   ·match hx:f (c::s) with
    | (none,s')=>rfl
    | (some t,s')=>have:=hs _ _ _ hx;exact ih _ _ oo
theorem gHh {K:Nat}{f g:List UInt8->Option (DataW Unit)×List UInt8}(h:gBz K f g)(hs:Shr f):∀(F:Nat) (l:List (DataW Unit)) (s:List UInt8),s.length<K->kG f F l s=kG g F l s:=by
 intro F
 induction F with
 | zero=>intro l s _;rfl
 | succ F ih=>
  intro l s hK;cases s with
  | nil=>rfl
  | cons c s=>
   rw[List.length_cons] at hK;rw[kG,kG,<-h s oo]
   split
   ·match hx:f s with
    | (none,s')=>rfl
    | (some t,s')=>have:=hs _ _ _ hx;exact ih _ _ oo
   ·rfl
theorem gVy {K:Nat}{f g:List UInt8->Option (DataW Unit)×List UInt8}(h:gBz K f g)(hs:Shr f):gBz K (lD f) (lD g):=by
 intro s hK
 unfold lD
 rw[<-h s hK]
 match hx:f s with
 | (none,s')=>rfl
 | (some t,s')=>
  have:=hs _ _ _ hx
  simp only[gFp h hs _ [t] s' oo]
theorem gZa {K:Nat}{f g:List UInt8->Option (DataW Unit)×List UInt8}(h:gBz K f g)(hs:Shr f):gBz K (rM f) (rM g):=by
 intro s hK
 unfold rM
 rw[<-h s hK]
 match hx:f s with
 | (none,s')=>rfl
 | (some t,s')=>
  have:=hs _ _ _ hx
  simp only[gHh h hs _ [t] s' oo]
theorem gZb:∀n,gBz n (gZ n) (gZ (n+1)):=by
 intro n
 induction n with
 | zero=>intro s h;omega
 | succ n ih=>exact gZa (gVy (gSg ih) (gAv (gHi n))) (gUf (gAv (gHi n)))
theorem gJs {s:List UInt8}{n m:Nat}(h:s.length<n)(hm:n<=m):gZ m s=gZ n s:=by
 obtain⟨d,rfl⟩:∃d,m=n+d:=⟨m - n,oo⟩
 clear hm
 induction d with
 | zero=>rfl
 | succ d ih=>rw[<-ih,<-Nat.add_assoc,<-gZb (n+d) s oo]
theorem gCw (n:Nat){s s' : List UInt8}(h:jX s=jX s'):gZ n s=gZ n s' := by
 cases n with
 | zero=>rw[gZ,gZ,h]
 | succ n=>
  have:iB (gZ n) s=iB (gZ n) s' := by unfold iB;rw[h]
  rw[gZ,gZ];unfold rM lD;rw[this]
def nQ (s:List UInt8):Option (DataW Unit) :=
 if jX s=[] then some (node 0 ⟨#[]⟩ [])
 else
  match gZ (s.length+1) s with
  | (some t,[])=>some t
  | _=>none
theorem gWf {s:List UInt8}{t:DataW Unit}(h:nQ s=some t)(h0:iE t≠0):jX s≠[]/\∀n,s.length<n->gZ n s=(some t,[]):=by
 unfold nQ at h
 split at h
 ·cases h;exact absurd rfl h0
 ·rename_i hs
  refine⟨hs,fun n hn=>?_⟩;rw[gJs (Nat.lt_succ_self _) hn]
  match hx:gZ (s.length+1) s with
  | (some u,[])=>rw[hx] at h;cases h;rfl
  | (some u,c::q)=>rw[hx] at h;cases h
  | (none,q)=>rw[hx] at h;cases h
theorem gUh {s:List UInt8}{t:DataW Unit}(hs:jX s≠[]){n:Nat}(hn:s.length<n)(h:gZ n s=(some t,[])):nQ s=some t:=by
 unfold nQ
 rw[if_neg hs,<-gJs (Nat.lt_succ_self _) hn,h]
end Go.Proofs.YtjkebndkeamijaaGreatDoor
/- Bound: how many are in what the plain parser reads, and within one another: by the length of the text. -/
namespace Go.Proofs.YtjkebndkeamijaaGreatDoor
open Go.RowKit
theorem gPj {f:DataW Unit->Int}{B:Int}(hB:0<=B):∀l:List (DataW Unit),(∀x∈l,f x<=B)->iK f l<=B:=by
 intro l
 induction l with
 | nil=>intro _;exact hB
 | cons x l ih=>
  intro h;have h1:=h x (zzg ..);(have h2:=ih fun y hy=>h y (zzk _ hy));rw[iK];omega
theorem gDo {f:DataW Unit->Int}:∀(l:List (DataW Unit)) (x:DataW Unit),x∈l->f x<=iK f l:=by
 intro l
 induction l with
 | nil=>intro x h;cases h
 | cons y l ih=>
  intro x h;rw[iK];rcases List.mem_cons.1 h with rfl | h
  ·omega
  ·have:=ih x h;omega
theorem gQu {f g:DataW Unit->Int}(h:∀x,f x<=g x):∀l,iX f l<=iX g l:=by
 intro l
 induction l with
 | nil=>exact Int.le_refl _
 | cons x r ih=>have:=h x;rw[iX,iX];omega
theorem gIh (f:DataW Unit->Int):∀l l' : List (DataW Unit),iX f (l++l')=iX f l+iX f l' := by
 intro l l'
 induction l with
 | nil=>rw[List.nil_append,iX];omega
 | cons x r ih=>rw[List.cons_append,iX,iX,ih];omega
theorem hFf (n:Nat):∀t,0<=cnt n t:=by
 exact k113
theorem hCz (n:Nat):∀t,cnt n t<=cnt (n+1) t:=by
 induction n with
 | zero=>intro t;exact hFf 1 t
 | succ n ih=>intro t;have:=gQu ih (subs t);rw[cnt,cnt];omega
def Bnd (f:List UInt8->Option (DataW Unit)×List UInt8):Prop:=∀s t q,f s=(some t,q)->∀n,dp n t+q.length<=s.length/\cnt n t+2 * q.length+1<=2 * s.length
theorem gDg:∀(s:List UInt8) (t:DataW Unit) (D C:Int),(∀n,dp n t<=D/\cnt n t<=C)->∀n,dp n (iY t s).1+(iY t s).2.length<=D+s.length/\cnt n (iY t s).1+2 * (iY t s).2.length<=C+2 * s.length:=by
 intro s
 induction s with
 | nil=>intro t D C h n;have:=h n;rw[iY];simp only[List.length_nil];omega
 | cons c s ih=>
  intro t D C h n;rw[iY]
  split
  ·have:=ih t D C h n
   rw[List.length_cons];omega
  ·split
   ·have:=h n
    simp only;omega
   ·have:=ih (node (jL c) ⟨#[]⟩ [t]) (D+1) (C+1) (fun m=>by
     have h0:0<=D/\0<=C:=h 0;cases m with
     | zero=>rw[dp,cnt];omega
     | succ m=>
      have:=h m
      rw[dp,cnt,iC,iK,iK,iX,iX]
      omega) n
    rw[List.length_cons];omega
theorem gSf {alt:List UInt8->Option (DataW Unit)×List UInt8}(ha:Bnd alt):Bnd (iB alt):=by
 intro s t q h n
 unfold iB at h
 have hL:=tU s
 match hs:jX s with
 | []=>rw[hs] at h;cases h
 | c::p=>
  rw[hs] at h hL;simp only at h;rw[List.length_cons] at hL
  by_cases hl:gH c=true
  ·rw[if_pos hl] at h
   cases h;rw[List.dropWhile_cons_of_pos hl];have h1:=gAk p
   have h2:=gDg (p.dropWhile gH) (node 1 ⟨((c::p).takeWhile gH).toArray⟩ []) 1 1 (fun m=>by
    cases m with
    | zero=>rw[dp,cnt];omega
    | succ m=>rw[dp,cnt,iC,iK,iX];omega) n
   omega
  ·rw[if_neg hl] at h
   by_cases h40:c=40
   ·rw[if_pos h40] at h
    match hp:alt p with
    | (none,p')=>rw[hp] at h;cases h
    | (some u,[])=>rw[hp] at h;cases h
    | (some u,d::p')=>
     rw[hp] at h;have h1:=ha p u _ hp;rw[List.length_cons] at h1;simp only at h
     by_cases h41:d=41
     ·rw[if_pos h41] at h
      cases h;have h2:=gDg p' u (p.length - p'.length - 1) (2 * p.length - 2 * p'.length - 3) (fun m=>by have:=h1 m;omega) n;omega
     ·rw[if_neg h41] at h
      cases h
   ·rw[if_neg h40] at h
    cases h
def Inv (l:List (DataW Unit))(M:Int):Prop:=1<=l.length/\(l.length:Int)<=M/\∀n,iX (cnt n) l+l.length<=2 * M/\∀x∈l,dp n x+l.length<=M+1
theorem Inv.one {x:DataW Unit}{M:Int}(h:∀n,dp n x<=M/\cnt n x+1<=2 * M):Inv [x] M:=by
 have h0:(0:Int)<=M/\(0:Int)+1<=2 * M:=h 0
 refine⟨zzb _,by rw[List.length_singleton];omega,fun n=>?_⟩
 have:=h n
 rw[List.length_singleton,iX,iX]
 refine⟨oo,fun y hy=>?_⟩
 rw[List.mem_singleton.1 hy]
 omega
theorem Inv.add {l:List (DataW Unit)}{M m:Int}(hI:Inv l M){x:DataW Unit}(h:∀n,dp n x<=m/\cnt n x+1<=2 * m):Inv (l++[x]) (M+m):=by
 obtain⟨h1,h2,h3⟩:=hI
 have h0:(0:Int)<=m/\(0:Int)+1<=2 * m:=h 0
 have hlen:(l++[x]).length=l.length+1:=by simp
 rw[Inv,hlen]
 refine⟨oo,oo,fun n=>?_⟩
 have hx:=h n
 have hl:=h3 n
 rw[gIh,iX,iX]
 refine⟨oo,fun y hy=>?_⟩
 rcases List.mem_append.1 hy with hy | hy
 ·have:=hl.2 y hy;omega
 ·rw[List.mem_singleton.1 hy];omega
theorem Inv.more {l:List (DataW Unit)}{M M' : Int}(hI:Inv l M)(h:M<=M'):Inv l M' := by
 obtain⟨h1,h2,h3⟩:=hI
 refine⟨h1,oo,fun n=>⟨by have:=(h3 n).1;omega,fun x hx=>by have:=(h3 n).2 x hx;omega⟩⟩
theorem gTk (k:Int)(n:Nat):∀l:List (DataW Unit),iX (cnt n) (jK k l)<=iX (cnt (n+1)) l:=by
 intro l
 induction l with
 | nil=>exact Int.le_refl _
 | cons x l ih=>
  rw[jK,gIh,iX]
  split
  ·rw[cnt];omega
  ·have:=hCz n x;rw[iX,iX];omega
theorem gPl (k:Int):∀(l:List (DataW Unit)) (y:DataW Unit),y∈jK k l->y∈l\/∃x∈l,y∈subs x:=by
 intro l
 induction l with
 | nil=>intro y h;cases h
 | cons x l ih=>
  intro y h;rw[jK] at h;rcases List.mem_append.1 h with h | h
  ·split at h
   ·exact .inr ⟨x,zzg ..,h⟩
   ·rw[List.mem_singleton.1 h];exact .inl (zzg ..)
  ·rcases ih y h with h | ⟨z,hz,h⟩
   ·exact .inl (zzk _ h)
   ·exact .inr ⟨z,zzk _ hz,h⟩
theorem Inv.join {l:List (DataW Unit)}{M:Int}(hI:Inv l M)(k:Int)(n:Nat):dp n (jV k l)<=M/\cnt n (jV k l)+1<=2 * M:=by
 obtain⟨h1,h2,h3⟩:=hI
 match l,h1,h2,h3 with
 | [x],_,_,h3=>
  have:=(h3 n).2 x (zzg ..)
  have h4:=(h3 n).1;rw[iX,iX,List.length_singleton] at h4;rw[List.length_singleton] at this;rw[jV];omega
 | x::y::l,_,h2,h3=>
  (have hlen:(2:Int)<=((x::y::l).length:Int):=by simp only[List.length_cons];omega);generalize hL:x::y::l=L at *;(have hj:jV k L=node k ⟨#[]⟩ (jK k L):=by rw[<-hL];rfl);rw[hj];cases n with
  | zero=>rw[dp,cnt];omega
  | succ n=>
   have hg:iK (dp n) (jK k L)<=M - 1:=by
    (refine gPj oo _ fun y hy=>?_);rcases gPl k L y hy with hy | ⟨z,hz,hy⟩
    ·have:=(h3 n).2 y hy;omega
    ·have h4:=(h3 (n+1)).2 z hz
     have h5:=gDo (f:=dp n) (subs z) y hy;rw[dp] at h4;omega
   have ht:=gTk k n L;have h4:=(h3 (n+1)).1;rw[dp,cnt,iC];omega
theorem gFo {mG:List UInt8->Option (DataW Unit)×List UInt8}(hp:Bnd mG):∀(F:Nat) (l l' : List (DataW Unit)) (s q:List UInt8) (M:Int),Inv l M->jY mG F l s=(some l', q)->Inv l' (M+s.length - q.length):=by
 intro F
 induction F with
 | zero=>intro l l' s q M _ h;cases h
 | succ F ih=>
  intro l l' s q M hI h;cases s with
  | nil=>cases h;exact hI.more oo
  | cons c s=>
   rw[jY] at h
   split at h
   ·cases h;exact hI.more oo
   ·match hx:mG (c::s) with
    | (none,s')=>rw[hx] at h;cases h
    | (some t,s')=>
     rw[hx] at h;have h1:=hp _ _ _ hx;have h2:=ih _ _ _ _ _ (hI.add (m:=(c::s).length - s'.length) (fun n=>by have:=h1 n;omega)) h;exact h2.more oo
theorem gHg {seq:List UInt8->Option (DataW Unit)×List UInt8}(hp:Bnd seq):∀(F:Nat) (l l' : List (DataW Unit)) (s q:List UInt8) (M:Int),Inv l M->kG seq F l s=(some l', q)->Inv l' (M+s.length - q.length):=by
 intro F
 induction F with
 | zero=>intro l l' s q M _ h;cases h
 | succ F ih=>
  intro l l' s q M hI h;cases s with
  | nil=>cases h;exact hI.more oo
  | cons c s=>
   rw[kG] at h
   split at h
   ·match hx:seq s with
    | (none,s')=>rw[hx] at h;cases h
    | (some t,s')=>
     rw[hx] at h;have h1:=hp _ _ _ hx;have h2:=ih _ _ _ _ _ (hI.add (m:=s.length - s'.length) (fun n=>by have:=h1 n;omega)) h;rw[List.length_cons];exact h2.more oo
   ·cases h;exact hI.more oo
theorem gVx {mG:List UInt8->Option (DataW Unit)×List UInt8}(hp:Bnd mG):Bnd (lD mG):=by
 intro s t q h n
 unfold lD at h
 match hx:mG s with
 | (none,s')=>rw[hx] at h;cases h
 | (some u,s')=>
  rw[hx] at h;have h1:=hp _ _ _ hx;simp only at h
  match hy:jY mG (s'.length+1) [u] s' with
  | (none,p)=>rw[hy] at h;cases h
  | (some l,p)=>
   rw[hy] at h;cases h;have h2:=(gFo hp _ _ _ _ _ _ (Inv.one (M:=s.length - s'.length) fun n=>by have:=h1 n;omega) hy).join 2 n;simp only;omega
theorem gYz {seq:List UInt8->Option (DataW Unit)×List UInt8}(hp:Bnd seq):Bnd (rM seq):=by
 intro s t q h n
 unfold rM at h
 match hx:seq s with
 | (none,s')=>rw[hx] at h;cases h
 | (some u,s')=>
  rw[hx] at h;have h1:=hp _ _ _ hx;simp only at h
  match hy:kG seq (s'.length+1) [u] s' with
  | (none,p)=>rw[hy] at h;cases h
  | (some l,p)=>
   rw[hy] at h;cases h;have h2:=(gHg hp _ _ _ _ _ _ (Inv.one (M:=s.length - s'.length) fun n=>by have:=h1 n;omega) hy).join 3 n;simp only;omega
theorem tI:∀n,Bnd (gZ n):=by
 intro n
 induction n with
 | zero=>intro s t q h;cases h
 | succ n ih=>exact gYz (gVx (gSf ih))
theorem gRw {s:List UInt8}{t:DataW Unit}(h:nQ s=some t)(h0:iE t≠0)(n:Nat):dp n t<=s.length/\cnt n t+1<=2 * s.length:=by
 have:=tI _ _ _ _ ((gWf h h0).2 _ (Nat.lt_succ_self _)) n
 rw[List.length_nil] at this
 omega
end Go.Proofs.YtjkebndkeamijaaGreatDoor
/- Peek: the document's own peek at every text and place: what it returns and leaves; nothing else is turned. -/
namespace Go.Proofs.YtjkebndkeamijaaGreatDoor
open Go.RowKit
def tG (s:ByteArray)(i:Nat):Nat:=(s.toList.getD i 0).toNat
theorem tF (s:ByteArray)(i:Nat)(h:i<s.size):(s[i]'h).toNat=tG s i:=by
 unfold tG
 rw[List.getD_eq_getElem?_getD,pU s i h]
 rfl
def gFi (s:ByteArray):Nat->Nat->Nat
 | 0,i=>i
 | f+1,i=>if tG s i=32 then gFi s f (i+1) else i
def skip (s:ByteArray)(i:Nat):Nat:=gFi s (s.size - i) i
theorem gCd {s:ByteArray}{i:Nat}(h:i<s.size)(h1:tG s i=32):skip s i=skip s (i+1):=by
 unfold skip
 rw[show s.size - i=(s.size - (i+1))+1 from by omega,gFi,if_pos h1]
theorem gCe {s:ByteArray}{i:Nat}(h:i<s.size)(h1:tG s i≠32):skip s i=i:=by
 unfold skip
 rw[show s.size - i=(s.size - (i+1))+1 from by omega,gFi,if_neg h1]
theorem gFh (s:ByteArray):skip s s.size=s.size:=by
 unfold skip
 rw[Nat.sub_self]
 rfl
theorem gZp (s:ByteArray)(f i:Nat):i<=gFi s f i/\gFi s f i<=i+f:=by
 induction f generalizing i with
 | zero=>exact⟨zzb _,zzb _⟩
 | succ f ih=>
  rw[gFi]
  split
  ·have:=ih (i+1);omega
  ·omega
theorem gUd {s:ByteArray}{i:Nat}(h:i<=s.size):i<=skip s i/\skip s i<=s.size:=by
 have:=gZp s (s.size - i) i
 unfold skip
 omega
def jD (s:ByteArray)(i:Nat)(e:Bool):Int:=if e=true\/i=s.size then 0 else max (tG s i:Int) 1
structure jW (g:Nat) (w w' : World):Prop where
 os:w'.os=w.os
 tape:w'.tape=w.tape
 output:w'.output=w.output
 size:w'.heap.size=w.heap.size
 block:∀k,k≠g->w'.heap[k]? = w.heap[k]?
theorem jW.refl (g:Nat)(w:World):jW g w w:=⟨rfl,rfl,rfl,rfl,fun _ _=>rfl⟩
theorem jW.drewN {g:Nat}{w w' : World}(h:jW g w w')(n:Nat):jW g w (w'.drewN n):=⟨h.os,h.tape,h.output,h.size,h.block⟩
theorem jW.setCell {g:Nat}{w w' : World}(h:jW g w w')(j:Nat)(u:Value):jW g w (w'.setCell ⟨g,j,none⟩ u):=⟨h.os,h.tape,h.output,by simpa using h.size,fun k hk=>(zzh w' _ u k hk).trans (h.block k hk)⟩
end Go.Proofs.YtjkebndkeamijaaGreatDoor
/- gX: trees in memory apart from one block (a parser's own), and what keeps them; what is left of a text at a place. -/
namespace Go.Proofs.YtjkebndkeamijaaGreatDoor
open Go.RowKit
structure gX (g:Nat) (w w' : World):Prop where
 os:w'.os=w.os
 tape:w'.tape=w.tape
 output:w'.output=w.output
 size:w.heap.size<=w'.heap.size
 block:∀k,k<w.heap.size->k≠g->w'.heap[k]? = w.heap[k]?
theorem gX.refl (g:Nat)(w:World):gX g w w:=⟨rfl,rfl,rfl,zzb _,fun _ _ _=>rfl⟩
theorem gX.trans {g:Nat}{w w' w'' : World}(h:gX g w w')(h' : gX g w' w''):gX g w w'' :=
 ⟨h'.os.trans h.os,h'.tape.trans h.tape,h'.output.trans h.output,Nat.le_trans h.size h'.size,fun k hk hg=>(h'.block k (zzl hk h.size) hg).trans (h.block k hk hg)⟩
theorem jW.kept {g:Nat}{w w' : World}(h:jW g w w'):gX g w w' := ⟨h.os,h.tape,h.output,Nat.le_of_eq h.size.symm,fun k _ hg=>h.block k hg⟩
def left (s:ByteArray)(i:Nat):List UInt8:=(bts s).drop i
theorem rA {s:ByteArray}{i:Nat}(h:i<s.size):left s i=s[i]'h::left s (i+1):=by
 have h1:=pU s i h
 rw[kV] at h1
 obtain⟨h2,h3⟩:=zzc.1 h1
 unfold left
 rw[List.drop_eq_getElem_cons h2,h3]
theorem oI (s:ByteArray):left s s.size=[]:=by
 unfold left
 refine List.drop_eq_nil_of_le ?_
 rw[<-kV,kZ]
 exact zzb _
theorem iL (s:ByteArray)(i:Nat):(left s i).length=s.size - i:=by
 unfold left
 rw[List.length_drop,<-kV,kZ]
theorem gXk (s:ByteArray):∀(d i:Nat),s.size=i+d->left s (skip s i)=jX (left s i):=by
 intro d
 induction d with
 | zero=>
  intro i h;(obtain rfl:i=s.size:=by omega);rw[gFh,oI,jX]
 | succ d ih=>
  intro i h;(have hi:i<s.size:=by omega);have hb:=tF s i hi;rw[rA hi,jX]
  by_cases h32:tG s i=32
  ·rw[gCd hi h32,ih (i+1) oo,if_pos (UInt8.toNat_inj.1 (by rw[hb,h32];rfl))]
  ·rw[gCe hi h32,rA hi,if_neg (fun e=>h32 (by rw[<-hb,e];rfl))]
theorem wM {s:ByteArray}{i:Nat}(h:i<=s.size):jD s i false=0↔left s i=[]:=by
 unfold jD
 constructor
 ·intro e
  split at e
  ·rename_i h1
   rcases h1 with h1 | rfl
   ·cases h1
   ·exact oI s
  ·omega
 ·intro e
  have:=iL s i
  rw[e,List.length_nil] at this;rw[if_pos (.inr oo)]
theorem gCj {s:ByteArray}{i:Nat}(h:i<s.size):jD s i false=max ((s[i]'h).toNat:Int) 1:=by
 unfold jD
 rw[if_neg (by rintro (h1 | h1);cases h1;omega),tF]
end Go.Proofs.YtjkebndkeamijaaGreatDoor
/- Rd: expr's reader: peek, pass, refuse, isLetter, passBar, atPart, nameLen at every text and place: what they return and leave; nothing else is turned. -/
namespace Go.Proofs.YtjkebndkeamijaaGreatDoor
open Go.RowKit
def RAt (w:World)(g:Nat)(s:ByteArray)(i:Nat):Prop:=w.heap[g]? = some (.cells #[.string s,.int .i64 (i:Int)] 221 (0,0))
theorem RAt.cells {w:World}{g:Nat}{s:ByteArray}{i:Nat}(h:RAt w g s i):w.cell? ⟨g,0,none⟩=some (.string s)/\w.cell? ⟨g,1,none⟩=some (.int .i64 (i:Int))/\w.frozen? ⟨g,1,none⟩=false:=by
 have hc:=fun j=>cell_of_row w g j _ _ _ h
 refine⟨hc 0,hc 1,?_⟩
 simp[World.frozen?,show w.heap[g]? = _ from h]
theorem RAt.lt {w:World}{g:Nat}{s:ByteArray}{i:Nat}(h:RAt w g s i):g<w.heap.size:=(zza.1 h).1
theorem RAt.next {w:World}{g:Nat}{s:ByteArray}{i:Nat}(h:RAt w g s i)(j:Nat):RAt (w.setCell ⟨g,1,none⟩ (.int .i64 (j:Int))) g s j:=heap_setCell_same w g 1 _ _ _ h
theorem RAt.below {w w' : World}{g:Nat}{s:ByteArray}{i:Nat}(h:RAt w g s i)(hB:Below w.heap.size w w'):RAt w' g s i:=(hB.block g h.lt).trans h
def pk (s:ByteArray)(i:Nat):Int:=if i=s.size then 0 else (tG s i:Int)
theorem gGb (s:ByteArray):pk s s.size=0:=by unfold pk;rw[if_pos rfl]
theorem gOa {s:ByteArray}{i:Nat}(h:i<s.size):pk s i=((s[i]'h).toNat:Int):=by
 unfold pk
 rw[if_neg oo,tF s i h]
theorem gNz {s:ByteArray}{i:Nat}(h:i<=s.size):0<=pk s i/\pk s i<256:=by
 rcases Nat.lt_or_ge i s.size with h1 | h1
 ·rw[gOa h1]
  have:=(s[i]'h1).toNat_lt
  omega
 ·obtain rfl:i=s.size:=by omega
  rw[gGb];omega
theorem pV (g:Nat)(s:ByteArray)(i:Nat)(w:World)(hP:RAt w g s i)(hi:i<=s.size)(_hs:s.size<=1152921504606846976) :
  Calls Tryz.prog 180 #[.pointer (some ⟨g,0,none⟩)] w fun r w' => r=.returned (.int .u8 (pk s i))/\RAt w' g s i/\jW g w w' := by
 obtain⟨c0,c1,f1⟩:=hP.cells
 have HP:Hid (∀q,RAt (w.drewN q) g s i):=fun q=>hP
 have HO:Hid (∀q,jW g w (w.drewN q)):=fun q=>(jW.refl g w).drewN q
 clear hP
 rcases Nat.lt_or_ge i s.size with h1 | h1
 ·have hp:=gOa h1
  have HC:Hid (pk s i=((s[i]'h1).toNat:Int)):=hp;generalize pk s i=C at *;(have ne:((i:Int)==(s.size:Int))=false:=by rw[beq_eq_false_iff_ne];omega);clear hp;go_enter Tryz.func180,Tryz.ntmps180;go_wp2_with fail
  go_quiet (fail)
  go_wp2_with fail
  go_quiet (fail)
  go_wp2;go_ret;exact⟨by rw[HC.out];rfl,HP.out 0,(HO.out _).drewN _⟩
 ·obtain rfl:i=s.size:=by omega
  rw[gGb];go_enter Tryz.func180,Tryz.ntmps180;go_wp2_with fail
  go_quiet (fail)
  go_wp2;go_ret;exact⟨rfl,HP.out _,HO.out _⟩
theorem jW.trans {g:Nat}{w w' w'' : World}(h:jW g w w')(h' : jW g w' w''):jW g w w'' :=
 ⟨h'.os.trans h.os,h'.tape.trans h.tape,h'.output.trans h.output,h'.size.trans h.size,fun k hk=>(h'.block k hk).trans (h.block k hk)⟩
theorem k128{p:Prop}(h:p:=by
  (go_wp2_with fail);refine HK.out.mono ?_;rintro e W ⟨rfl,hPW,hOW⟩;go_wp2
  go_end0
  exact⟨rfl,hPW,hO.trans hOW⟩
  ):p:=h
theorem qX (g:Nat)(s:ByteArray)(i n:Nat)(w:World)(hP:RAt w g s i)(hi:i+n<=s.size)(hs:s.size<=1152921504606846976) :
  Calls Tryz.prog 171 #[.pointer (some ⟨g,0,none⟩),.int .i64 (n:Int)] w fun r w' => r=.returned (.tuple #[])/\RAt w' g s (skip s (i+n))/\jW g w w' := by
 obtain⟨T,hT⟩:∃T,skip s (i+n)=T:=⟨_,rfl⟩
 rw[hT]
 have HT:Hid (skip s (i+n)=T):=hT
 clear hT
 obtain⟨c0,c1,f1⟩:=hP.cells
 have HP:Hid (RAt (w.setCell ⟨g,1,none⟩ (.int .i64 ((i:Int)+(n:Int)))) g s (i+n)):=by
  have:=hP.next (i+n)
  rwa [Int.natCast_add] at this
 have HO:Hid (jW g w (w.setCell ⟨g,1,none⟩ (.int .i64 ((i:Int)+(n:Int))))):=(jW.refl g w).setCell 1 _
 clear hP
 go_enter Tryz.func171,Tryz.ntmps171
 go_wp2
 go_loopg [] (s.size+1) (fun f w' => ∃j:Nat,j<=s.size/\s.size+1<=j+f/\skip s j=T/\RAt w' g s j/\jW g w w')
 case atStart=>exact⟨i+n,hi,oo,HT.out,HP.out,HO.out⟩
 case round=>
  obtain⟨j,hj,hf,hsk,hPj,hO⟩:=hrel;clear HT HP HO c0 c1 f1;have hpk:=pV g s j wr hPj hj hs
  by_cases hlt:j<s.size
  ·have hb:=tF s j hlt
   by_cases h32:tG s j=32
   ·have HS:Hid (skip s (j+1)=T):=by show _=_;rw[<-gCd hlt h32];exact hsk
    (have hv:pk s j=32:=by rw[gOa hlt,hb,h32];rfl);rw[hv] at hpk;have HK:Hid (Calls Tryz.prog 180 #[.pointer (some ⟨g,0,none⟩)] wr fun r w' => r=.returned (.int .u8 32)/\RAt w' g s j/\jW g wr w'):=hpk;clear hb hsk hPj hpk hv;(go_wp2_with fail);refine HK.out.mono ?_;rintro e W ⟨rfl,hPW,hOW⟩;obtain⟨c0,c1,f1⟩:=hPW.cells;have HN:Hid (RAt (W.setCell ⟨g,1,none⟩ (.int .i64 ((j:Int)+1))) g s (j+1)):=hPW.next (j+1);have HO2:Hid (jW g w (W.setCell ⟨g,1,none⟩ (.int .i64 ((j:Int)+1)))):=(hO.trans hOW).setCell 1 _;clear hPW hOW HK;go_wp2
    go_roundg (gk - 1)
    case measure=>omega
    case rel=>exact⟨j+1,oo,oo,HS.out,HN.out,HO2.out⟩
   ·have hT:=hsk
    rw[gCe hlt h32] at hT;subst hT;(have hv:pk s j≠32:=by rw[gOa hlt,hb];omega);have HK:Hid (Calls Tryz.prog 180 #[.pointer (some ⟨g,0,none⟩)] wr fun r w' => r=.returned (.int .u8 (pk s j))/\RAt w' g s j/\jW g wr w'):=hpk;generalize pk s j=C at *;(have hv1:(C==32)=false:=by rw[beq_eq_false_iff_ne];omega);clear hb hsk hPj hpk;exact k128
  ·obtain rfl:j=s.size:=by omega
   have hT:=hsk;rw[gFh] at hT;subst hT;rw[gGb] at hpk;have HK:Hid (Calls Tryz.prog 180 #[.pointer (some ⟨g,0,none⟩)] wr fun r w' => r=.returned (.int .u8 0)/\RAt w' g s s.size/\jW g wr w'):=hpk;clear hsk hPj hpk;exact k128
def uL (i:Nat)(n:Int):Value:=.iface 219 (.agg #[.int .i64 (i:Int),.iface 28 (.int .i64 n)])
theorem vC (g:Nat)(s:ByteArray)(i:Nat)(w:World)(hP:RAt w g s i) :
  Calls Tryz.prog 173 #[.pointer (some ⟨g,0,none⟩)] w fun r w' => r=.returned (uL i 4)/\w' = w:=by
 obtain⟨c0,c1,f1⟩:=hP.cells
 go_enter Tryz.func173,Tryz.ntmps173
 go_wp2
 go_ret
 exact⟨rfl,rfl⟩
theorem gHs (g:Nat)(s:ByteArray)(i:Nat)(w:World)(hP:RAt w g s i)(hi:i<=s.size)(hs:s.size<=1152921504606846976) :
  Calls Tryz.prog 183 #[.pointer (some ⟨g,0,none⟩)] w fun r w' => jW g w w' /\ ((pk s i=124/\r=.returned (.bool true)/\RAt w' g s (skip s (i+1)))\/(pk s i≠124/\r=.returned (.bool false)/\RAt w' g s i)):=by
 have hpk:=pV g s i w hP hi hs
 by_cases hc:pk s i=124
 ·have hlt:i<s.size:=by
   rcases Nat.lt_or_ge i s.size with h | h
   ·exact h
   ·obtain rfl:i=s.size:=by omega
    rw[gGb] at hc;cases hc
  rw[hc] at hpk ⊢;have HK:Hid (Calls Tryz.prog 180 #[.pointer (some ⟨g,0,none⟩)] w fun r w' => r=.returned (.int .u8 124)/\RAt w' g s i/\jW g w w'):=hpk;(have HP:Hid (∀W,RAt W g s i->Calls Tryz.prog 171 #[.pointer (some ⟨g,0,none⟩),.int .i64 1] W fun r w' => r=.returned (.tuple #[])/\RAt w' g s (skip s (i+1))/\jW g W w'):=fun W h=>qX g s i 1 W h oo hs);clear hpk hc hP;go_enter Tryz.func183,Tryz.ntmps183;(go_wp2_with fail);refine HK.out.mono ?_;rintro e W ⟨rfl,hPW,hOW⟩;(go_wp2_with fail);refine(HP.out W hPW).mono ?_;rintro e W2 ⟨rfl,hPW2,hOW2⟩;go_wp2;go_ret;exact⟨hOW.trans hOW2,.inl ⟨trivial,rfl,hPW2⟩⟩
 ·have HK:Hid (Calls Tryz.prog 180 #[.pointer (some ⟨g,0,none⟩)] w fun r w' => r=.returned (.int .u8 (pk s i))/\RAt w' g s i/\jW g w w'):=hpk
  generalize pk s i=C at *;(have e1:(C==124)=false:=by rw[beq_eq_false_iff_ne];exact hc);(have e2:(C != 124)=true:=by rw[bne_iff_ne];exact hc);have HC:Hid (C≠124):=hc;clear hpk hc hP;go_enter Tryz.func183,Tryz.ntmps183;(go_wp2_with fail);refine HK.out.mono ?_;rintro e W ⟨rfl,hPW,hOW⟩;go_wp2;go_ret;exact⟨hOW,.inr ⟨HC.out,rfl,hPW⟩⟩
theorem gMg (g:Nat)(s:ByteArray)(i:Nat)(w:World)(hP:RAt w g s i)(hi:i<=s.size)(hs:s.size<=1152921504606846976) :
  Calls Tryz.prog 190 #[.pointer (some ⟨g,0,none⟩)] w fun r w' => r=.returned (.bool (pL (pk s i)||pk s i==40))/\RAt w' g s i/\jW g w w' := by
 have HK:Hid (∀W,RAt W g s i->Calls Tryz.prog 180 #[.pointer (some ⟨g,0,none⟩)] W fun r w' => r=.returned (.int .u8 (pk s i))/\RAt w' g s i/\jW g W w'):=fun W h=>pV g s i W h hi hs
 have HL:Hid (∀c W,Calls Tryz.prog 187 #[.int .u8 c] W fun r w' => r=.returned (.bool (pL c))/\w' = W):=fun c W=>tC c W
 have HP:Hid (RAt w g s i):=hP
 generalize pk s i=C at *
 obtain⟨b,hb⟩:∃b,pL C=b:=⟨_,rfl⟩
 clear hP
 cases b with
 | true=>
  rw[hb];go_enter Tryz.func190,Tryz.ntmps190;(go_wp2_with fail);refine(HK.out w HP.out).mono ?_;rintro e W ⟨rfl,hPW,hOW⟩;(go_wp2_with fail);refine(HL.out C W).mono ?_;rintro e W' ⟨rfl,hW⟩;subst hW;rw[hb];go_wp2;go_ret;exact⟨rfl,hPW,hOW⟩
 | false=>
  rw[hb];go_enter Tryz.func190,Tryz.ntmps190;(go_wp2_with fail);refine(HK.out w HP.out).mono ?_;rintro e W ⟨rfl,hPW,hOW⟩;(go_wp2_with fail);refine(HL.out C W).mono ?_;rintro e W' ⟨rfl,hW⟩;subst hW;rw[hb];(go_wp2_with fail);refine(HK.out _ hPW).mono ?_;rintro e W2 ⟨rfl,hPW2,hOW2⟩;go_wp2;go_ret;exact⟨rfl,hPW2,hOW.trans hOW2⟩
end Go.Proofs.YtjkebndkeamijaaGreatDoor
/- Mem: trees in memory whose blocks all lie where A says; rows of trees that a call owns. -/
namespace Go.Proofs.YtjkebndkeamijaaGreatDoor
open Go.RowKit
def ExA (A:Nat->Prop)(w:World):Nat->DataW Unit->Value->Prop
 | 0,_,_=>False
 | n+1,t,v=>∃(k:Int) (s:ByteArray) (a:Option Addr) (len cap:Nat) (ts:List (DataW Unit)),t=node k s ts/\v=.agg #[.int .i64 k,.string s,.slice a len cap]/\ts.length=len/\len<=9223372036854775807 ∧
   (len=0\/∃b o,a=some ⟨b,o,none⟩/\b<w.heap.size/\A b/\∀i x,ts[i]? = some x->∃(k' : Int) (s' : ByteArray) (a' : Option Addr) (len' cap' : Nat),
    w.cell? ⟨b,o+i * 3,none⟩=some (.int .i64 k')/\w.cell? ⟨b,o+i * 3+1,none⟩=some (.string s')/\w.cell? ⟨b,o+i * 3+2,none⟩=some (.slice a' len' cap')/\ExA A w n x (.agg #[.int .i64 k', .string s', .slice a' len' cap']))
theorem k131{p:Prop}(h:p:=by
  obtain⟨k', s', a', len', cap', c0,c1,c2,c3⟩:=hc i x hx;exact⟨k', s', a', len', cap', c0,c1,c2,ih _ _ c3⟩
  ):p:=h
theorem ExA.ex {A:Nat->Prop}{w:World}:∀(n:Nat) (t:DataW Unit) (v:Value),ExA A w n t v->Ex w n t v:=by
 intro n
 induction n with
 | zero=>intro t v h;exact h
 | succ n ih=>
  rintro t v ⟨k,s,a,len,cap,ts,h1,h2,h3,h4,h5⟩;refine⟨k,s,a,len,cap,ts,h1,h2,h3,h4,?_⟩;rcases h5 with h5 | ⟨b,o,h5,h6,_,hc⟩
  ·exact .inl h5
  ·refine .inr ⟨b,o,h5,h6,fun i x hx=>?_⟩
   exact k131
theorem ExA.kept {A A' : Nat->Prop}{w w' : World}(hs:w.heap.size<=w'.heap.size)(hk:∀b,b<w.heap.size->A b->A' b/\w'.heap[b]? = w.heap[b]?):∀(n:Nat) (t:DataW Unit) (v:Value),ExA A w n t v->ExA A' w' n t v:=by
 have hcell:∀b o,b<w.heap.size->A b->w'.cell? ⟨b,o,none⟩=w.cell? ⟨b,o,none⟩:=fun b o h1 h2=>by
  unfold World.cell?;rw[(hk b h1 h2).2]
 intro n
 induction n with
 | zero=>intro t v h;exact h
 | succ n ih=>
  rintro t v ⟨k,s,a,len,cap,ts,h1,h2,h3,h4,h5⟩;refine⟨k,s,a,len,cap,ts,h1,h2,h3,h4,?_⟩;rcases h5 with h5 | ⟨b,o,rfl,hlt,hA,hc⟩
  ·exact .inl h5
  ·refine .inr ⟨b,o,rfl,zzl hlt hs,(hk b hlt hA).1,fun i x hx=>?_⟩
   obtain⟨k', s', a', len', cap', c0,c1,c2,c3⟩:=hc i x hx;exact⟨k', s', a', len', cap', (hcell _ _ hlt hA).trans c0,(hcell _ _ hlt hA).trans c1,(hcell _ _ hlt hA).trans c2,ih _ _ c3⟩
theorem ExA.mono {A A' : Nat->Prop}{w:World}(h:∀b,b<w.heap.size->A b->A' b){n:Nat}{t:DataW Unit}{v:Value}(hx:ExA A w n t v):ExA A' w n t v :=
 ExA.kept (zzb _) (fun b h1 h2=>⟨h b h1 h2,rfl⟩) n t v hx
theorem ExA.up {A:Nat->Prop}{w:World}:∀(n:Nat) (t:DataW Unit) (v:Value),ExA A w n t v->ExA A w (n+1) t v:=by
 intro n
 induction n with
 | zero=>intro t v h;exact h.elim
 | succ n ih=>
  rintro t v ⟨k,s,a,len,cap,ts,h1,h2,h3,h4,h5⟩;refine⟨k,s,a,len,cap,ts,h1,h2,h3,h4,?_⟩;rcases h5 with h5 | ⟨b,o,h5,h6,h7,hc⟩
  ·exact .inl h5
  ·refine .inr ⟨b,o,h5,h6,h7,fun i x hx=>?_⟩
   exact k131
theorem ExA.upto {A:Nat->Prop}{w:World}{n m:Nat}(h:n<=m){t:DataW Unit}{v:Value}(hx:ExA A w n t v):ExA A w m t v:=by
 induction h with
 | refl=>exact hx
 | step _ ih=>exact ExA.up _ _ _ ih
theorem ExA.leaf (A:Nat->Prop)(w:World)(n:Nat)(k:Int)(s:ByteArray)(a:Option Addr)(cap:Nat):ExA A w (n+1) (node k s []) (.agg #[.int .i64 k,.string s,.slice a 0 cap]) :=
 ⟨k,s,a,0,cap,[],rfl,rfl,rfl,oo,.inl rfl⟩
def Raw:Type:=Int×ByteArray×Option Addr×Nat×Nat
def jI (x:Raw):Value:=.agg #[.int .i64 x.1,.string x.2.1,.slice x.2.2.1 x.2.2.2.1 x.2.2.2.2]
def mR:List Raw->List Value
 | []=>[]
 | x::r=>.int .i64 x.1 :: .string x.2.1 :: .slice x.2.2.1 x.2.2.2.1 x.2.2.2.2::mR r
theorem gDj (l m:List Raw):mR (l++m)=mR l++mR m:=by
 induction l with
 | nil=>rfl
 | cons x r ih=>simp[mR,ih]
theorem oE (l:List Raw):(mR l).length=l.length * 3:=by
 induction l with
 | nil=>rfl
 | cons x r ih=>simp[mR,ih];omega
theorem gZz (l:List Raw):∀u∈mR l,u.oneCell' = true:=by
 induction l with
 | nil=>intro u hu;cases hu
 | cons x r ih=>
  intro u hu;simp only[mR,List.mem_cons] at hu;rcases hu with rfl | rfl | rfl | hu
  ·rfl
  ·rfl
  ·rfl
  ·exact ih u hu
theorem gAr (l:List Raw)(i:Nat)(x:Raw)(h:l[i]? = some x):(mR l)[i * 3]? = some (.int .i64 x.1)/\(mR l)[i * 3+1]? = some (.string x.2.1)/\(mR l)[i * 3+2]? = some (.slice x.2.2.1 x.2.2.2.1 x.2.2.2.2):=by
 induction l generalizing i with
 | nil=>simp at h
 | cons y r ih=>
  cases i with
  | zero=>
   (obtain rfl:y=x:=by simpa using h);exact⟨rfl,rfl,rfl⟩
  | succ i=>
   have:=ih i (by simpa using h)
   rw[show (i+1) * 3=i * 3+3 from by omega,show i * 3+3+1=i * 3+1+3 from by omega,show i * 3+3+2=i * 3+2+3 from by omega];exact this
theorem vE {w:World}{b:Nat}(l:List Raw)(o:Nat)(h:∀i x,l[i]? = some x->w.cell? ⟨b,o+i * 3,none⟩=some (.int .i64 x.1)/\w.cell? ⟨b,o+i * 3+1,none⟩=some (.string x.2.1) ∧
  w.cell? ⟨b,o+i * 3+2,none⟩=some (.slice x.2.2.1 x.2.2.2.1 x.2.2.2.2)):∀j u,(mR l)[j]? = some u->w.cell? ⟨b,o+j,none⟩=some u:=by
 intro j u hj
 have hjl:j<l.length * 3:=by
  have:=(zzc.1 hj).1
  rwa [oE] at this
 obtain⟨x,hx⟩:∃x,l[j / 3]? = some x:=⟨_,zze oo⟩
 obtain⟨f0,f1,f2⟩:=gAr l (j / 3) x hx
 obtain⟨c0,c1,c2⟩:=h (j / 3) x hx
 rcases (show j=j / 3 * 3\/j=j / 3 * 3+1\/j=j / 3 * 3+2 from by omega) with e | e | e
 ·rw[e] at hj ⊢
  rw[f0] at hj;exact c0.trans hj
 ·rw[e] at hj ⊢
  rw[f1] at hj;exact c1.trans hj
 ·rw[e] at hj ⊢
  rw[f2] at hj;exact c2.trans hj
theorem rD (b o i:Nat):(⟨b,o,none⟩:Addr).add i=⟨b,o+i,none⟩:=by unfold Addr.add;split<;>simp_all
def lH (A:Nat->Prop)(w:World)(m:Nat)(ts:List (DataW Unit))(rs:List Raw):Prop:=rs.length=ts.length/\∀(i:Nat) (t:DataW Unit),ts[i]? = some t->∃r,rs[i]? = some r/\ExA A w m t (jI r)
theorem lH.nil (A:Nat->Prop)(w:World)(m:Nat):lH A w m [] []:=⟨rfl,fun i t h=>by simp at h⟩
theorem lH.append {A:Nat->Prop}{w:World}{m:Nat}{ts us:List (DataW Unit)}{rs qs:List Raw}(h:lH A w m ts rs)(h' : lH A w m us qs):lH A w m (ts++us) (rs++qs):=by
 refine⟨by rw[List.length_append,List.length_append,h.1,h'.1],fun i t ht=>?_⟩
 rcases Nat.lt_or_ge i ts.length with hi | hi
 ·rw[List.getElem?_append_left hi] at ht
  rw[List.getElem?_append_left (by rw[h.1];exact hi)];exact h.2 i t ht
 ·rw[List.getElem?_append_right hi] at ht
  rw[List.getElem?_append_right (by rw[h.1];exact hi),h.1];exact h'.2 _ t ht
theorem lH.one {A:Nat->Prop}{w:World}{m:Nat}{t:DataW Unit}{r:Raw}(h:ExA A w m t (jI r)):lH A w m [t] [r]:=by
 refine⟨rfl,fun i u hu=>?_⟩
 cases i with
 | zero=>
  obtain rfl:t=u:=by simpa using hu
  exact⟨r,rfl,h⟩
 | succ i=>simp at hu
theorem lH.kept {A A' : Nat->Prop}{w w' : World}(hs:w.heap.size<=w'.heap.size)(hk:∀b,b<w.heap.size->A b->A' b/\w'.heap[b]? = w.heap[b]?){m:Nat}{ts:List (DataW Unit)}{rs:List Raw}(h:lH A w m ts rs):lH A' w' m ts rs :=
 ⟨h.1,fun i t ht=>by obtain⟨r,h1,h2⟩:=h.2 i t ht;exact⟨r,h1,ExA.kept hs hk _ _ _ h2⟩⟩
theorem lH.upto {A:Nat->Prop}{w:World}{n m:Nat}(hm:n<=m){ts:List (DataW Unit)}{rs:List Raw}(h:lH A w n ts rs):lH A w m ts rs :=
 ⟨h.1,fun i t ht=>by obtain⟨r,h1,h2⟩:=h.2 i t ht;exact⟨r,h1,h2.upto hm⟩⟩
theorem ExA.kids {A:Nat->Prop}{w:World}{m:Nat}{t:DataW Unit}{k:Int}{s:ByteArray}{a:Option Addr}{len cap:Nat}(h:ExA A w (m+1) t (.agg #[.int .i64 k,.string s,.slice a len cap]))(h0:0<len) :
  t=node k s (subs t)/\(subs t).length=len/\len<=9223372036854775807/\∃b o rs,a=some ⟨b,o,none⟩/\b<w.heap.size/\A b/\lH A w m (subs t) rs/\∀j u,(mR rs)[j]? = some u->w.cell? ((⟨b,o,none⟩:Addr).add j)=some u:=by
 obtain⟨k', s', a', len', cap', ts,rfl,hv,hl,hz,hk⟩:=h
 obtain⟨rfl,rfl,rfl,rfl,rfl⟩:k=k' /\ s=s' /\ a=a' /\ len=len' /\ cap=cap' := by
  have:=Array.toList_inj.2 (Value.agg.inj hv)
  simp only[List.cons.injEq,Value.int.injEq,Value.string.injEq,Value.slice.injEq,and_true,true_and] at this;exact⟨this.1,this.2.1,this.2.2.1,this.2.2.2.1,this.2.2.2.2⟩
 rw[iC]
 refine⟨rfl,hl,hz,?_⟩
 rcases hk with h | ⟨b,o,rfl,hlt,hA,hc⟩
 ·omega
 ·have key:∀(l:List (DataW Unit)) (d:Nat),(∀i x,l[i]? = some x->ts[d+i]? = some x)->∃rs:List Raw,rs.length=l.length/\∀i x,l[i]? = some x->∃r,rs[i]? = some r/\ExA A w m x (jI r)/\w.cell? ⟨b,o+(d+i) * 3,none⟩=some (.int .i64 r.1)/\w.cell? ⟨b,o+(d+i) * 3+1,none⟩=some (.string r.2.1)/\w.cell? ⟨b,o+(d+i) * 3+2,none⟩=some (.slice r.2.2.1 r.2.2.2.1 r.2.2.2.2):=by
   intro l
   induction l with
   | nil=>intro d _;exact⟨[],rfl,fun i x h=>by simp at h⟩
   | cons y l ih=>
    intro d hd;obtain⟨rs,h1,h2⟩:=ih (d+1) (fun i x hx=>by have:=hd (i+1) x (by simpa using hx);rwa [show d+1+i=d+(i+1) from by omega]);obtain⟨k', s', a', len', cap', c0,c1,c2,c3⟩:=hc d y (by have:=hd 0 y rfl;simpa using this);obtain⟨r0,rfl,rfl,rfl,rfl,rfl⟩:∃r0:Raw,k' = r0.1/\s' = r0.2.1/\a' = r0.2.2.1/\len' = r0.2.2.2.1/\cap' = r0.2.2.2.2:=⟨(k', s', a', len', cap'),rfl,rfl,rfl,rfl,rfl⟩;refine⟨r0::rs,by simp[h1],fun i x hx=>?_⟩;cases i with
    | zero=>
     (obtain rfl:y=x:=by simpa using hx);exact⟨_,rfl,c3,c0,c1,c2⟩
    | succ i=>
     obtain⟨r,g1,g2,g3⟩:=h2 i x (by simpa using hx);rw[show d+1+i=d+(i+1) from by omega] at g3;exact⟨r,by simpa using g1,g2,g3⟩
  obtain⟨rs,h1,h2⟩:=key ts 0 (fun i x h=>by simpa using h);refine⟨b,o,rs,rfl,hlt,hA,⟨h1,fun i t ht=>?_⟩,fun j u hj=>?_⟩
  ·obtain⟨r,g1,g2,_⟩:=h2 i t ht
   exact⟨r,g1,g2⟩
  ·rw[rD]
   refine vE rs o (fun i x hx=>?_) j u hj;(have hi:i<ts.length:=by rw[<-h1];exact(zzc.1 hx).1);obtain⟨r,g1,_,g3⟩:=h2 i _ (zze hi);rw[hx] at g1;cases g1;simpa using g3
theorem ExA.of_owns {A:Nat->Prop}{W:World}{base:Nat}{v:Value}{n m:Nat}{ts:List (DataW Unit)}{rs:List Raw}(h:W.ownsRow base 69 3 v n (mR rs))(hr:lH A W m ts rs)(hn:n<=9223372036854775807)(hA:∀g,v.ownBlock=some g->A g)(k:Int)(s:ByteArray) :
  ∃a cap,v=.slice a n cap/\ts.length=n/\ExA A W (m+1) (node k s ts) (.agg #[.int .i64 k,.string s,.slice a n cap]):=by
 obtain⟨hl,⟨h1,h2⟩ | ⟨g,cap,cur,rfl,hb,hg,hc1,hc2,hc3,hc4⟩⟩:=h
 ·subst h2
  have hr0:rs.length=0:=by rw[oE] at hl;omega
  have ht0:ts.length=0:=by rw[<-hr.1,hr0]
  exact⟨none,0,h1,ht0,k,s,none,0,0,ts,rfl,rfl,ht0,oo,.inl rfl⟩
 ·have hl' : rs.length=n:=by rw[oE] at hl;omega
  (have ht:ts.length=n:=by rw[<-hr.1,hl']);refine⟨_,cap,rfl,ht,k,s,_,n,cap,ts,rfl,rfl,ht,hn,.inr ⟨g,0,rfl,(zza.1 hg).1,hA g rfl,fun i x hx=>?_⟩⟩;obtain⟨r,hr1,hr2⟩:=hr.2 i x hx;obtain⟨f0,f1,f2⟩:=gAr rs i r hr1
  have key:∀j u,(mR rs)[j]? = some u->W.cell? ⟨g,0+j,none⟩=some u:=by
   intro j u hj
   have hjl:j<n * 3:=by
    have:=(zzc.1 hj).1
    rw[oE] at this;omega
   rw[<-hc4,List.getElem?_take,if_pos hjl,Array.getElem?_toList] at hj;simp[World.cell?,hg,hj]
  exact⟨r.1,r.2.1,r.2.2.1,r.2.2.2.1,r.2.2.2.2,key _ _ f0,key _ _ f1,key _ _ f2,hr2⟩
theorem hCm:(Tryz.prog.info? 69).map (fun i=>(i.zero,i.size,i.bytes))=some (some (.agg #[.int .i64 0,.string ⟨#[]⟩,.slice none 0 0]),3,48):=by kernel_rfl
theorem wY {base:Nat}{v:Value}{n:Nat}{rs qs:List Raw}{W:World}(hown:W.ownsRow base 69 3 v n (mR rs))(hbase:base<=W.heap.size)(b o len cap:Nat)(hl:qs.length=len)(hc:∀j u,(mR qs)[j]? = some u->W.cell? ((⟨b,o,none⟩:Addr).add j)=some u)(hsz:n+len<=1099511627776) :
  ∃v' W1,(Builtin.append_ #[67,67] 67 #[v,.slice (some ⟨b,o,none⟩) len cap]).run Tryz.prog W=.ok v' W1/\W1.ownsRow base 69 3 v' (n+len) (mR (rs++qs))/\W.grownBy W1 v.ownBlock/\(v'.ownBlock=v.ownBlock\/v'.ownBlock=some W.heap.size):=by
 obtain⟨i0,hi,hz0,hz1,hz2⟩:=info_parts hCm
 obtain⟨v', W1,hrun,r1,r2,_,r4⟩:=run_append_own_at (P:=Tryz.prog) W base 67 67 69 i0 _ 3 48 Tryz.underlying67 hi hz0 hz1 hz2 rfl (by decide) v n _ hown ⟨b,o,none⟩ len cap (mR qs) (by rw[oE,hl]) hc (gZz qs) (by unfold maxLen;omega) oo hbase
 rw[<-gDj] at r1
 exact⟨v', W1,hrun,r1,r2,r4⟩
theorem sM {o:Oper}{a:Act}{w:World}{K:Act->World->Prop}{Q:Exit->Act->World->Prop}(s x:Operand)(t:TypeId)(ho:o.op=.call { callee:=.builtin .append,args:=#[s,x],argTypes:=#[t,t] })
  (v u v' : Value) (w' : World) (hs:a.eval s=v) (hx:a.eval x=u) (hr:(Builtin.append_ #[t,t] o.type #[v,u]).run Tryz.prog w=.ok v' w') (h:K (a.put o.dst v') w'):o.wp Tryz.prog a w K Q:=by
 unfold Oper.wp execOp
 simp only[ho,resolve,invoke,builtin,Sem.run_bind,Sem.run_pure,Result.andThen_ok,List.map_toArray,List.map_cons,List.map_nil,hs,hx,hr]
 exact h
theorem pG {ops:Array Oper}{rest:List Oper}{o:Oper}{a:Act}{w:World}{Q:Exit->Act->World->Prop}(hgd:o.guard=none)(s x:Operand)(t:TypeId)(ho:o.op=.call { callee:=.builtin .append,args:=#[s,x],argTypes:=#[t,t] })
  (v u v' : Value) (w' : World) (hs:a.eval s=v) (hx:a.eval x=u) (hr:(Builtin.append_ #[t,t] o.type #[v,u]).run Tryz.prog w=.ok v' w') (h:wpList Tryz.prog ops Q rest (a.put o.dst v') w'):wpList Tryz.prog ops Q (o::rest) a w :=
 wpList_plain hgd fun _ hK=>sM s x t ho v u v' w' hs hx hr (hK _ _ h)
end Go.Proofs.YtjkebndkeamijaaGreatDoor
/- Join: rows of trees joined, as plain data. -/
namespace Go.Proofs.YtjkebndkeamijaaGreatDoor
open Go.RowKit
def lC (t:DataW Unit):Prop:=t=node (iE t) (nV t) (subs t)/\((iE t=2\/iE t=3)->nV t=⟨#[]⟩/\2<=(subs t).length)
theorem lC.of {k:Int}{s:ByteArray}{ts:List (DataW Unit)}(h:(k=2\/k=3)->s=⟨#[]⟩/\2<=ts.length):lC (node k s ts):=by
 refine⟨by rw[iN,kT,iC],?_⟩
 rw[iN,kT,iC]
 exact h
theorem wV (k:Int)(l:List (DataW Unit))(t:DataW Unit):jK k (l++[t])=jK k l++(if iE t=k then subs t else [t]):=by
 induction l with
 | nil=>simp[jK]
 | cons x r ih=>rw[List.cons_append,jK,jK,ih,List.append_assoc]
theorem gPm {k:Int}(hk:k=2\/k=3):∀l:List (DataW Unit),(∀x∈l,lC x)->l.length<=(jK k l).length:=by
 intro l
 induction l with
 | nil=>intro _;exact zzb _
 | cons x r ih=>
  intro h;(have h1:=ih fun y hy=>h y (zzk _ hy));have h2:=(h x (zzg ..)).2;rw[jK,List.length_append,List.length_cons]
  split
  ·rename_i e
   have:=(h2 (by rw[e];exact hk)).2
   omega
  ·simp only[List.length_cons,List.length_nil]
   omega
theorem gGw {k:Int}(hk:k=2\/k=3)(l:List (DataW Unit))(h:∀x∈l,lC x)(h0:l≠[]) :
  lC (jV k l)/\(((jK k l).length=1/\jK k l=[jV k l]/\jV k l∈l)\/((jK k l).length≠1/\2<=(jK k l).length/\jV k l=node k ⟨#[]⟩ (jK k l))):=by
 have hl:=gPm hk l h
 match l,h,h0,hl with
 | [x],h,_,hl=>
  have hx:=h x (zzg ..);refine⟨hx,?_⟩
  by_cases e:iE x=k
  ·have hg:=hx.2 (by rw[e];exact hk)
   (have hf:jK k [x]=subs x:=by rw[jK,if_pos e];simp[jK]);rw[hf];refine .inr ⟨oo,hg.2,?_⟩;have h1:=hx.1;rw[e,hg.1] at h1;exact h1
  ·have hf:jK k [x]=[x]:=by rw[jK,if_neg e];rfl
   rw[hf];exact .inl ⟨rfl,rfl,zzg ..⟩
 | x::y::r,h,_,hl=>
  have e:jV k (x::y::r)=node k ⟨#[]⟩ (jK k (x::y::r)):=rfl;rw[e];simp only[List.length_cons] at hl;exact⟨lC.of fun _=>⟨rfl,oo⟩,.inr ⟨oo,oo,rfl⟩⟩
def zE:Value:=.agg #[.int .i64 0,.string ⟨#[]⟩,.slice none 0 0]
theorem gU {P:Program}{fn:Func}{p u:Tmp}{ty:TypeId}(h:fn.results=#[.cell p ty,.tmp u])(tmps:Array Value)(w:World)(g:Nat)(t:TypeId)(cs:Array Value)(fr:Nat×Nat)(d:TypeDesc)
  (hp:tmps.getD p undef=.pointer (some ⟨g,0,none⟩)) (hg:w.heap[g]? = some (.cells cs t fr))
  (hu:P.underlying ty=some d)(hd:(match d with | .struct _ | .array _ _=>true | _=>false)=true)(hi:(P.info? ty).map (·.size)=some cs.size) :
  (results fn tmps).run P w=.ok (.tuple #[.agg cs,tmps.getD u undef]) w:=by
 rw[results_cell_tmp h,hp]
 simp[asAddr,run_loadVar_row w g t ty cs fr d hg hu hd hi,Result.andThen]
theorem lQ {P:Program}{fn:Func}{p u u' : Tmp}{ty:TypeId}(h:fn.results=#[.cell p ty,.tmp u,.tmp u'])(tmps:Array Value)(w:World)(g:Nat)(t:TypeId)(cs:Array Value)(fr:Nat×Nat)(d:TypeDesc)
  (hp:tmps.getD p undef=.pointer (some ⟨g,0,none⟩)) (hg:w.heap[g]? = some (.cells cs t fr))
  (hu:P.underlying ty=some d)(hd:(match d with | .struct _ | .array _ _=>true | _=>false)=true)(hi:(P.info? ty).map (·.size)=some cs.size) :
  (results fn tmps).run P w=.ok (.tuple #[.agg cs,tmps.getD u undef,tmps.getD u' undef]) w:=by
 have hp' : tmps[p]?.getD undef=.pointer (some ⟨g,0,none⟩):=by simpa using hp
 simp[results,h,hp', asAddr,run_loadVar_row w g t ty cs fr d hg hu hd hi,Result.andThen]
theorem gE:(Tryz.prog.info? 69).map (·.size)=some 3:=by kernel_rfl
theorem jF (k:Int)(s:ByteArray)(a:Option Addr)(len cap:Nat):(#[Value.int .i64 k,.string s,.slice a len cap]:Array Value).all (·.oneCell')=true:=by
 rw[Array.all_eq_true_iff_forall_mem]
 intro v hv
 simp at hv
 rcases hv with rfl | rfl | rfl<;>rfl
theorem gX.of_below {g:Nat}{w w' : World}(h:Below w.heap.size w w'):gX g w w' := ⟨h.os,h.tape,h.output,h.size,fun k hk _=>h.block k hk⟩
theorem gX.alloc {g:Nat}{w w' : World}(h:gX g w w')(o:Obj):gX g w (w'.alloc o) :=
 ⟨h.os,h.tape,h.output,by have:=h.size;simp;omega,fun k hk hg=>(zzf w' o k (zzl hk h.size)).trans (h.block k hk hg)⟩
theorem gX.setRow {g:Nat}{w w' : World}(h:gX g w w')(b:Nat)(cs:Array Value)(hb:w.heap.size<=b):gX g w (w'.setRow b cs) :=
 ⟨h.os,h.tape,h.output,by have:=h.size;simp;omega,fun k hk hg=>(setRow_other w' b k cs oo).trans (h.block k hk hg)⟩
theorem RAt.alloc {w:World}{g:Nat}{s:ByteArray}{i:Nat}(h:RAt w g s i)(o:Obj):RAt (w.alloc o) g s i:=(zzf w o g h.lt).trans h
theorem RAt.setRow {w:World}{g:Nat}{s:ByteArray}{i:Nat}(h:RAt w g s i)(b:Nat)(cs:Array Value)(hb:b≠g):RAt (w.setRow b cs) g s i:=(setRow_other w b g cs (Ne.symm hb)).trans h
end Go.Proofs.YtjkebndkeamijaaGreatDoor
