/-
  PROVED HERE: what the texts DARow, DAStk, DAPush, DAPop, DAEq, DAFTok say.
-/
import Derived.Test.YtjkebndkeamijaaGreatDoorCA19
import Derived.Laws.StructEq
set_option maxRecDepth 100000
set_option maxHeartbeats 2000000
namespace Go.Proofs.YtjkebndkeamijaaGreatDoor
open Go.RowKit
theorem gUt:(Tryz.prog.info? 3).map (fun i=>(i.zero,i.size,i.bytes))=some (some (.int .i64 0),1,8):=by kernel_rfl
def Row (k:IntKind)(w:World)(a:Option Addr)(len:Nat)(zs:List Int):Prop :=
 zs.length=len/\(len=0\/∃b o,a=some ⟨b,o,none⟩/\b<w.heap.size/\∀i,i<len->w.cell? ⟨b,o+i,none⟩=some (.int k (zs.getD i 0)))
theorem tW {W:World}{base:Nat}{e:TypeId}{k:IntKind}{v:Value}{n:Nat}{bs:List Int}(h:W.ownsRow base e 1 v n (bs.map (Value.int k))):∃a cap,v=.slice a n cap/\Row k W a n bs:=by
 obtain⟨hl,⟨h1,h2⟩ | ⟨g,cap,cur,rfl,hb,hg,hc1,hc2,hc3,hc4⟩⟩:=h
 ·subst h2
  exact⟨none,0,h1,by simpa using hl,.inl rfl⟩
 ·have hl' : bs.length=n:=by simpa using hl
  refine⟨_,cap,rfl,hl', ?_⟩;rcases Nat.eq_zero_or_pos n with h0 | h0
  ·exact .inl h0
  ·refine .inr ⟨g,0,rfl,(zza.1 hg).1,fun i hi=>?_⟩
   have:cur.toList[i]? = some (.int k (bs.getD i 0)):=by
    have h2:=congrArg (·[i]?) hc4;simp only[Nat.mul_one] at h2;rw[List.getElem?_take,if_pos hi] at h2;rw[h2,List.getElem?_map,zze oo,List.getD_eq_getElem?_getD,zze oo]
    rfl
   rw[Array.getElem?_toList] at this;simp[World.cell?,hg,this]
theorem gMc {base:Nat}{e:TypeId}{W w1 w2:World}{u:Value}{k:Nat}{ys:List Value}{tmp:Obj}(hB:Below base W w1)(hrow:w1.ownsRow base e 1 u k ys)(hbase:base<=w1.heap.size)(hgrow:(w1.alloc tmp).grownBy w2 u.ownBlock):Below base W w2:=by
 refine(hB.alloc hbase tmp).grown hgrow (by simp;omega) fun j ej=>?_
 rcases hrow.2 with ⟨rfl,_⟩ | ⟨g,cap,cur,rfl,hb,_,_⟩
 ·simp[Value.ownBlock] at ej
 ·obtain rfl:g=j:=by simpa [Value.ownBlock] using ej
  exact hb
theorem gDk {W:World}{base:Nat}{e:TypeId}{v:Value}{n:Nat}{xs:List Int}(h:W.ownsRow base e 1 v (n+1) (xs.map (Value.int .i64))) :
  ∃g cap,v=.slice (some ⟨g,0,none⟩) (n+1) cap/\n+1<=cap/\cap<=maxLen/\W.ownsRow base e 1 (.slice (some ⟨g,0,none⟩) n cap) n (xs.dropLast.map (Value.int .i64)):=by
 obtain⟨hl,⟨_,h2⟩ | ⟨g,cap,cur,rfl,hb,hg,hc1,hc2,hc3,hc4⟩⟩:=h
 ·omega
 ·refine⟨g,cap,rfl,hc1,hc2,?_,.inr ⟨g,cap,cur,rfl,hb,hg,oo,hc2,hc3,?_⟩⟩
  ·simp only[List.length_map,List.length_dropLast] at hl ⊢
   omega
  ·have h3:=congrArg (List.take n) hc4
   rw[List.take_take] at h3;simp only[Nat.mul_one] at h3 ⊢;rw[show min n (n+1)=n from by omega] at h3;simp only[List.length_map,Nat.mul_one] at hl;rw[h3,<-List.map_take,List.dropLast_eq_take,hl]
   rfl
def lO:List Tok->Nat->List Int->List Int
 | [],_,s=>s
 | x::r,i,s=>lO r (i+1) (if x.k=1 then s++[(i:Int)] else if x.k=2 then s.dropLast else s)
def gK (l:List Tok)(at' : Int):List Int:=if at' <= l.length then lO (l.take at'.toNat) 0 [] else []
def gKc (len:Nat)(at' : Int):Nat:=if at' <= len then at'.toNat else 0
theorem gOh (l:List Tok)(at' : Int):gK l at' = lO ((l.take (gKc l.length at')).drop 0) 0 []:=by
 unfold gK gKc
 split<;>simp[lO]
theorem gGh {l:List Tok}{k N:Nat}(hk:k<N)(hN:N<=l.length)(s:List Int):∃x,l[k]? = some x/\lO ((l.take N).drop k) k s=lO ((l.take N).drop (k+1)) (k+1) (if x.k=1 then s++[(k:Int)] else if x.k=2 then s.dropLast else s):=by
 refine⟨l[k],zze oo,?_⟩
 rw[List.drop_eq_getElem_cons (l:=l.take N) (i:=k) (by rw[List.length_take];omega),lO]
 simp
theorem hDp (len:Nat)(at' : Int):gKc len at' <= len:=by unfold gKc;split<;>omega
theorem zK {s:List Int}(h:s.length=0):s.dropLast=s:=by rw[List.length_eq_zero_iff.1 h];rfl
theorem mC.kind {w:World}{a:Option Addr}{len:Nat}{l:List Tok}(h:mC w a len l){k:Nat}{x:Tok}(hx:l[k]? = some x):∃b o,a=some ⟨b,o,none⟩/\b<w.heap.size/\∀W:World,Below w.heap.size w W->W.cell? ⟨b,o+k * 4,none⟩=some (.int .i64 x.k):=by
 have hk:k<l.length:=(zzc.1 hx).1
 obtain⟨h1,h2 | ⟨b,o,rfl,hlt,hc⟩⟩:=h
 ·omega
 ·exact⟨b,o,rfl,hlt,fun W hW=>(hW.cell (p:=⟨b,_,none⟩) hlt).trans (hc k x hx).1⟩
def lA (x:Tok)(i:Nat)(s:List Int):List Int:=if x.k=1 then s++[(i:Int)] else if x.k=2 then s.dropLast else s
def gB (l:List Tok)(p:Int):Int:=(gK l p).getLast?.getD (-1)
def kindAt (l:List Tok)(k:Nat):Int:=(l[k]?.map (·.k)).getD 0
def rV (l:List Tok)(i:Int):Nat->Nat->Int
 | _,0 => -1
 | k,f+1=>if kindAt l k=2/\gB l k=i then k else rV l i (k+1) f
def iU (l:List Tok)(i:Int):Int :=
 if i<0\/(l.length:Int)<=i then -1
 else if kindAt l i.toNat=2 then gB l i
 else if kindAt l i.toNat=1 then rV l i (i.toNat+1) (l.length - (i.toNat+1))
 else -1
def nW (l:List Tok)(i:Int):Nat->Nat->List Int->List Int
 | _,0,out=>out
 | k,f+1,out=>if kindAt l k=2/\gB l k=i/\0<=i then out
  else nW l i (k+1) f (if kindAt l k≠2/\0<=kindAt l k/\kindAt l k<=3/\gB l k=i then out++[(k:Int)] else out)
def kids (l:List Tok)(i:Int):List Int :=
 if i < -1\/(l.length:Int)<=i\/(0<=i/\kindAt l i.toNat≠1) then [] else nW l i (i+1).toNat (l.length - (i+1).toNat) []
theorem iF {l:List Tok}{k:Nat}{x:Tok}(h:l[k]? = some x):kindAt l k=x.k:=by unfold kindAt;rw[h];rfl
theorem mC.kindAt {w:World}{a:Option Addr}{len:Nat}{l:List Tok}(h:mC w a len l){k:Nat}(hk:k<len):∃b o,a=some ⟨b,o,none⟩/\b<w.heap.size/\∀W:World,Below w.heap.size w W->W.cell? ⟨b,o+k * 4,none⟩=some (.int .i64 (YtjkebndkeamijaaGreatDoor.kindAt l k)):=by
 obtain⟨x,hx⟩:∃x,l[k]? = some x:=⟨_,zze (by rw[h.1];exact hk)⟩
 rw[iF hx]
 exact h.kind hx
theorem gGi (l:List Tok)(i:Nat)(s:List Int)(B:Int)(hB:(i:Int)+l.length<=B)(hs:∀x∈s,0<=x/\x<B):∀x∈lO l i s,0<=x/\x<B:=by
 induction l generalizing i s with
 | nil=>exact hs
 | cons t r ih=>
  rw[lO];simp only[List.length_cons] at hB;refine ih (i+1) _ oo ?_
  split
  ·intro x hx
   rcases List.mem_append.1 hx with hx | hx
   ·exact hs x hx
   ·obtain rfl:x=(i:Int):=by simpa using hx
    omega
  ·split
   ·intro x hx
    exact hs x (List.dropLast_subset _ hx)
   ·exact hs
theorem gLa (l:List Tok)(i:Nat)(s:List Int):(lO l i s).length<=s.length+l.length:=by
 induction l generalizing i s with
 | nil=>exact zzb _
 | cons t r ih=>
  rw[lO];refine Nat.le_trans (ih _ _) ?_
  split
  ·simp;omega
  ·split<;>simp<;>omega
theorem yZ (l:List Tok)(p:Int):(gK l p).length<=l.length:=by
 unfold gK
 split
 ·have h:=gLa (l.take p.toNat) 0 []
  rw[List.length_take,List.length_nil] at h;omega
 ·simp
theorem gOi (l:List Tok)(p:Int):∀x∈gK l p,0<=x/\x<l.length:=by
 unfold gK
 split
 ·exact gGi _ 0 [] _ (by simp;omega) (by intro x hx;cases hx)
 ·intro x hx;cases hx
theorem gQc (l:List Tok)(p:Int) : -1<=gB l p/\gB l p<=l.length:=by
 unfold gB
 cases h:(gK l p).getLast? with
 | none=>simp
 | some x=>
  have:=gOi l p x (List.mem_of_getLast? h)
  simp
  omega
theorem gOx {R:List Int}{n:Nat}(h:R.length=n+1):R.getLast?.getD (-1)=R.getD n 0:=by
 rw[List.getLast?_eq_getElem?,h,List.getD_eq_getElem?_getD,show n+1 - 1=n from rfl,zze oo]
 rfl
theorem gKu (l:List Tok)(i:Int)(k f:Nat):rV l i k f = -1\/(∃j:Nat,rV l i k f=j/\j<k+f):=by
 induction f generalizing k with
 | zero=>exact .inl rfl
 | succ f ih=>
  rw[rV]
  split
  ·exact .inr ⟨k,rfl,oo⟩
  ·rcases ih (k+1) with h | ⟨j,h,hj⟩
   ·exact .inl h
   ·exact .inr ⟨j,h,oo⟩
theorem qY {W W' : World}{base:Nat}{e:TypeId}{v:Value}{n:Nat}{xs:List Value}(h:W.ownsRow base e 1 v n xs)(hB:Below W.heap.size W W')(_hb:base<=W.heap.size):W'.ownsRow base e 1 v n xs:=by
 obtain⟨hl,h1 | ⟨g,cap,cur,rfl,hb,hg,hc1,hc2,hc3,hc4⟩⟩:=h
 ·exact⟨hl,.inl h1⟩
 ·refine⟨hl,.inr ⟨g,cap,cur,rfl,hb,?_,hc1,hc2,hc3,hc4⟩⟩
  rw[hB.block g (zza.1 hg).1,hg]
def uX (v:Value)(R:List Int)(cs:Array Value):Prop :=
 cs.size=34/\(∀i,i<32->i<R.length->cs[i]? = some (.int .i64 (R.getD i 0)))/\(∀i,i<32->∃z,cs[i]? = some (.int .i64 z))/\cs[32]? = some v/\cs[33]? = some (.int .i64 (R.length:Int))
def Stk (w:World)(base g:Nat)(v:Value)(R:List Int):Prop :=
 base<=g/\w.ownsRow base 3 1 v (R.length - 32) ((R.drop 32).map (Value.int .i64))/\∃cs,w.heap[g]? = some (.cells cs 111 (0,0))/\uX v R cs
structure kY (g:Nat) (v:Option Nat) (w w' : World):Prop where
 os:w'.os=w.os
 tape:w'.tape=w.tape
 output:w'.output=w.output
 size:w.heap.size<=w'.heap.size
 block:∀k,k<w.heap.size->k≠g->some k≠v->w'.heap[k]? = w.heap[k]?
theorem kY.refl (g:Nat)(v:Option Nat)(w:World):kY g v w w:=⟨rfl,rfl,rfl,zzb _,fun _ _ _ _=>rfl⟩
theorem kY.drew {g:Nat}{v:Option Nat}{w w' : World}(h:kY g v w w'):kY g v w w'.drew:=⟨h.os,h.tape,h.output,h.size,h.block⟩
theorem kY.alloc {g:Nat}{v:Option Nat}{w w' : World}(h:kY g v w w')(o:Obj):kY g v w (w'.alloc o) :=
 ⟨h.os,h.tape,h.output,by have:=h.size;simp;omega,fun k h1 h2 h3=>(zzf w' o k (zzl h1 h.size)).trans (h.block k h1 h2 h3)⟩
theorem kY.setCell {g:Nat}{v:Option Nat}{w w' : World}(h:kY g v w w')(j:Nat)(u:Value):kY g v w (w'.setCell ⟨g,j,none⟩ u) :=
 ⟨h.os,h.tape,h.output,by simpa using h.size,fun k h1 h2 h3=>(zzh w' _ u k h2).trans (h.block k h1 h2 h3)⟩
theorem kY.below {g:Nat}{v:Option Nat}{w w' : World}(h:kY g v w w'){base:Nat}(hg:base<=g)(hv:∀k,v=some k->base<=k)(hb:base<=w.heap.size):Below base w w' :=
 ⟨h.os,h.tape,h.output,h.size,fun k hk=>h.block k oo oo (fun e=>by have:=hv k e.symm;omega)⟩
theorem oF {w:World}{base:Nat}{e:TypeId}{v:Value}{n:Nat}{xs:List Value}(h:w.ownsRow base e 1 v n xs):∀k,v.ownBlock=some k->base<=k/\k<w.heap.size/\∃cur,w.heap[k]? = some (.cells cur e (0,0)):=by
 intro k hk
 rcases h.2 with ⟨rfl,_⟩ | ⟨g,cap,cur,rfl,hb,hg,_⟩
 ·simp[Value.ownBlock] at hk
 ·obtain rfl:g=k:=by simpa [Value.ownBlock] using hk
  exact⟨hb,(zza.1 hg).1,cur,hg⟩
theorem Stk.apart {w:World}{base g:Nat}{v:Value}{R:List Int}(h:Stk w base g v R):v.ownBlock≠some g:=by
 intro e
 obtain⟨_,h2,cs,h3,_⟩:=h
 obtain⟨_,_,cur,h4⟩:=oF h2 g e
 rw[h3] at h4
 have:=(Obj.cells.inj (zzo h4)).2.1
 exact absurd this (by decide)
theorem vG {w:World}{base:Nat}{e:TypeId}{v:Value}{n:Nat}{xs:List Value}(h:w.ownsRow base e 1 v n xs)(g j:Nat)(u:Value)(hg:v.ownBlock≠some g):(w.setCell ⟨g,j,none⟩ u).ownsRow base e 1 v n xs:=by
 obtain⟨h1,h2 | ⟨b,cap,cur,rfl,hb,hc,h3⟩⟩:=h
 ·exact⟨h1,.inl h2⟩
 ·refine⟨h1,.inr ⟨b,cap,cur,rfl,hb,?_,h3⟩⟩
  rw[zzh w _ u b (by intro e;exact hg (by simp[Value.ownBlock,e]))];exact hc
theorem Stk.cells {w:World}{base g:Nat}{v:Value}{R:List Int}(h:Stk w base g v R):w.cell? ⟨g,32,none⟩=some v/\w.cell? ⟨g,33,none⟩=some (.int .i64 (R.length:Int))/\(∀i,i<32->∃z,w.cell? ⟨g,i,none⟩=some (.int .i64 z))/\(∀i,i<32->i<R.length->w.cell? ⟨g,i,none⟩=some (.int .i64 (R.getD i 0)))/\(∀i,w.frozen? ⟨g,i,none⟩=false)/\g<w.heap.size:=by
 obtain⟨_,_,cs,hg,h0,h1,h2,h3,h4⟩:=h
 have hc:=fun j=>cell_of_row w g j cs _ _ hg
 refine⟨(hc 32).trans h3,(hc 33).trans h4,fun i hi=>?_,fun i hi hr=>(hc i).trans (h1 i hi hr),fun i=>?_,(zza.1 hg).1⟩
 ·obtain⟨z,hz⟩:=h2 i hi
  exact⟨z,(hc i).trans hz⟩
 ·simp[World.frozen?,hg]
theorem Stk.drew {w:World}{base g:Nat}{v:Value}{R:List Int}(h:Stk w base g v R):Stk w.drew base g v R:=h
theorem k146{p:Prop}(h:p:=by
  rw[List.getD_eq_getElem?_getD,List.getD_eq_getElem?_getD,List.getElem?_append_left oo]
  ):p:=h
theorem hDw {w:World}{base g:Nat}{v:Value}{R:List Int}{p:Int}(h:Stk w base g v R)(hR:R.length<32)(w' : World)
  (hw:w' = (w.setCell ⟨g,R.length,none⟩ (.int .i64 p)).setCell ⟨g,33,none⟩ (.int .i64 ((R.length:Int)+1))):Stk w' base g v (R++[p]):=by
 subst hw
 have hap:=h.apart
 obtain⟨h0,h1,cs,hg,c0,c1,c2,c3,c4⟩:=h
 refine⟨h0,?_,(cs.setIfInBounds R.length (.int .i64 p)).setIfInBounds 33 (.int .i64 ((R.length:Int)+1)),?_,?_⟩
 ·rw[show (R++[p]).length - 32=R.length - 32 from by simp;omega,show (R++[p]).drop 32=R.drop 32 from by rw[List.drop_eq_nil_of_le (by simp;omega),List.drop_eq_nil_of_le oo]]
  exact vG (vG h1 _ _ _ hap) _ _ _ hap
 ·exact heap_setCell_same _ g 33 _ _ _ (heap_setCell_same _ g R.length _ _ _ hg)
 ·refine⟨by simpa using c0,fun i hi hr=>?_,fun i hi=>?_,?_,?_⟩
  ·rw[Array.getElem?_setIfInBounds_ne oo]
   by_cases e:i=R.length
   ·subst e
    rw[Array.getElem?_setIfInBounds_self_of_lt oo]
    simp
   ·rw[Array.getElem?_setIfInBounds_ne oo,c1 i hi (by simp at hr;omega)]
    simp at hr;exact k146
  ·rw[Array.getElem?_setIfInBounds_ne oo]
   by_cases e:R.length=i
   ·subst e
    exact⟨p,Array.getElem?_setIfInBounds_self_of_lt oo⟩
   ·rw[Array.getElem?_setIfInBounds_ne e]
    exact c2 i hi
  ·rw[Array.getElem?_setIfInBounds_ne oo,Array.getElem?_setIfInBounds_ne oo,c3]
  ·rw[Array.getElem?_setIfInBounds_self_of_lt (by simp;omega)]
   simp
theorem gYd (base g:Nat)(v:Value)(R:List Int)(p:Int)(w:World)(h:Stk w base g v R)(hR:R.length<32) :
  Calls Tryz.prog 103 #[.pointer (some ⟨g,0,none⟩),.int .i64 p] w fun e w' => e=.returned (.tuple #[])/\Stk w' base g v (R++[p])/\kY g v.ownBlock w w' := by
 have HS:Hid (∀w' : World,w' = (w.setCell ⟨g,R.length,none⟩ (.int .i64 p)).setCell ⟨g,33,none⟩ (.int .i64 ((R.length:Int)+1))->Stk w' base g v (R++[p])):=fun w' hw=>hDw h hR w' hw
 obtain⟨c1,c2,c3,c4,f,hg⟩:=h.cells
 obtain⟨z,hz⟩:=c3 R.length hR
 have fn:=f R.length
 have f33:=f 33
 clear c1 c3 c4 f h
 generalize R++[p]=R' at *
 generalize R.length=n at *
 go_enter Tryz.func103,Tryz.ntmps103
 go_wp2
 go_region
 go_wp2
 go_end0
 exact⟨rfl,Stk.drew (HS.out _ rfl),(((kY.refl _ _ w).setCell _ _).setCell _ _).drew⟩
theorem vU {w:World}{a:Addr}{v:Value}{o:Obj}(h:w.cell? a=some v):(w.alloc o).cell? a=some v:=by
 have hlt:a.block<w.heap.size:=by
  rcases Nat.lt_or_ge a.block w.heap.size with h1 | h1
  ·exact h1
  ·simp[World.cell?,Array.getElem?_eq_none h1] at h
 rw[zzi (w:=w) (zzf w o a.block hlt)]
 exact h
theorem gBk {w w2:World}{o:Obj}{row:Option Nat}{a:Addr}(h:(w.alloc o).grownBy w2 row)(hlt:a.block<w.heap.size)(hne:some a.block≠row):w2.frozen? a=w.frozen? a :=
 World.frozen?_of_block (w:=w) ((h.block a.block (by simp;omega) hne).trans (zzf w o a.block hlt))
theorem gCk {w:World}{base:Nat}{e:TypeId}{v:Value}{n:Nat}{xs:List Value}(h:w.ownsRow base e 1 v n xs):∃a cap,v=.slice a n cap:=by
 rcases h.2 with ⟨rfl,rfl⟩ | ⟨g,cap,cur,rfl,_⟩
 ·exact⟨_,_,rfl⟩
 ·exact⟨_,_,rfl⟩
theorem k134{p:Prop}(h:p:=by
  rw[Array.getElem?_setIfInBounds_ne oo,Array.getElem?_setIfInBounds_ne oo];exact c2 i hi
  ):p:=h
theorem gZo {w:World}{base g:Nat}{v v' : Value}{R:List Int}{p:Int}(h:Stk w base g v R)(hR:32<=R.length){w2 w' : World}{o:Obj}(hown:w2.ownsRow base 3 1 v' (R.length - 32+1) ((R.drop 32).map (Value.int .i64)++[.int .i64 p]))(hgrow:(w.alloc o).grownBy w2 v.ownBlock)
  (hat:v'.ownBlock=v.ownBlock\/v'.ownBlock=some (w.alloc o).heap.size)
  (hw:w' = (w2.setCell ⟨g,32,none⟩ v').setCell ⟨g,33,none⟩ (.int .i64 ((R.length:Int)+1))):Stk w' base g v' (R++[p])/\kY g v.ownBlock w w' /\ (v'.ownBlock=v.ownBlock\/∀k,v'.ownBlock=some k->w.heap.size<=k):=by
 subst hw
 have hap:=h.apart
 have hgs:=h.cells.2.2.2.2.2
 have hap2:v'.ownBlock≠some g:=by
  rcases hat with e | e
  ·rw[e];exact hap
  ·rw[e];simp;omega
 obtain⟨h0,h1,cs,hg,c0,c1,c2,c3,c4⟩:=h
 have hg2:w2.heap[g]? = some (.cells cs 111 (0,0)):=by
  rw[hgrow.block g (by simp;omega) (fun e=>hap e.symm),zzf w o g hgs];exact hg
 have hK:kY g v.ownBlock w w2:=⟨hgrow.os,hgrow.tape,hgrow.output,by have:=hgrow.size;simp at this;omega,fun k h1 h2 h3=>by
  rw[hgrow.block k (by simp;omega) h3,zzf w o k h1]⟩
 refine⟨⟨h0,?_,(cs.setIfInBounds 32 v').setIfInBounds 33 (.int .i64 ((R.length:Int)+1)),?_,?_⟩,(hK.setCell _ _).setCell _ _,?_⟩
 ·rw[show (R++[p]).length - 32=R.length - 32+1 from by simp;omega,List.drop_append_of_le_length hR,List.map_append]
  exact vG (vG hown _ _ _ hap2) _ _ _ hap2
 ·exact heap_setCell_same _ g 33 _ _ _ (heap_setCell_same _ g 32 _ _ _ hg2)
 ·refine⟨by simpa using c0,fun i hi hr=>?_,fun i hi=>?_,?_,?_⟩
  ·rw[Array.getElem?_setIfInBounds_ne oo,Array.getElem?_setIfInBounds_ne oo,c1 i hi oo]
   exact k146
  ·exact k134
  ·rw[Array.getElem?_setIfInBounds_ne oo,Array.getElem?_setIfInBounds_self_of_lt oo]
  ·rw[Array.getElem?_setIfInBounds_self_of_lt (by simp;omega)]
   simp
 ·rcases hat with e | e
  ·exact .inl e
  ·refine .inr fun k hk=>?_
   rw[e] at hk;simp at hk;omega
theorem gTf (base g:Nat)(v:Value)(R:List Int)(p:Int)(w:World)(h:Stk w base g v R)(hb:base<=w.heap.size)(hR:32<=R.length)(hR2:R.length<=4398046511104) :
  Calls Tryz.prog 103 #[.pointer (some ⟨g,0,none⟩),.int .i64 p] w fun e w' => e=.returned (.tuple #[])/\∃v', Stk w' base g v' (R++[p])/\kY g v.ownBlock w w' /\ (v'.ownBlock=v.ownBlock\/∀k,v'.ownBlock=some k->w.heap.size<=k):=by
 obtain⟨i0,hi,hz0,hz1,hz2⟩:=info_parts gUt
 have HS:Hid (∀(v' : Value) (o:Obj) (w2 w' : World),w2.ownsRow base 3 1 v' (R.length - 32+1) ((R.drop 32).map (Value.int .i64)++[.int .i64 p])->(w.alloc o).grownBy w2 v.ownBlock->(v'.ownBlock=v.ownBlock\/v'.ownBlock=some (w.alloc o).heap.size) →
  w' = (w2.setCell ⟨g,32,none⟩ v').setCell ⟨g,33,none⟩ (.int .i64 ((R.length:Int)+1))->Stk w' base g v' (R++[p])/\kY g v.ownBlock w w' /\ (v'.ownBlock=v.ownBlock\/∀k,v'.ownBlock=some k->w.heap.size<=k)):=fun v' o w2 w' a1 a2 a3 a4=>gZo h hR a1 a2 a3 a4
 obtain⟨c1,c2,c3,c4,f,hg⟩:=h.cells
 have f32:=f 32
 have f33:=f 33
 have hap:=h.apart
 have hown:=h.2.1
 have hlen:(((R.drop 32).map (Value.int .i64)).length=R.length - 32):=by simp
 clear c3 c4 f h
 generalize R++[p]=R' at *
 generalize hn:R.length=n at *
 generalize hX:(R.drop 32).map (Value.int .i64)=X at *
 clear hX hn
 obtain⟨m,rfl⟩:∃m,n=m+32:=⟨n - 32,oo⟩
 rw[show m+32 - 32=m from by omega] at *
 go_enter Tryz.func103,Tryz.ntmps103
 go_wp2_with (at_builtin;refine wpList_append_own_at _ rfl _ _ 61 rfl base 3 i0 (.int .i64 0) 1 8 Tryz.underlying61 hi hz0 hz1 hz2 rfl (by decide) _ _ _ rfl (hown.alloc _) ⟨w.heap.size,0,none⟩ 1 1 [.int .i64 p] rfl rfl (cell_one_new _ _ _) (by simp[Value.oneCell']) (by unfold maxLen;omega) oo (by simp;omega) ?_;intro v2 w2 hown2 hgrow hnil2 hat;have d1:w2.cell? ⟨g,32,none⟩=some v:=hgrow.cell (a:=⟨g,32,none⟩) ((vU c1)) (fun e=>hap e.symm);have d2:w2.cell? ⟨g,33,none⟩=some (.int .i64 ((m+32:Nat):Int)):=hgrow.cell (a:=⟨g,33,none⟩) ((vU c2)) (fun e=>hap e.symm);have d3:w2.frozen? ⟨g,32,none⟩=false:=(gBk (a:=⟨g,32,none⟩) hgrow hg (fun e=>hap e.symm)).trans f32;have d4:w2.frozen? ⟨g,33,none⟩=false:=(gBk (a:=⟨g,33,none⟩) hgrow hg (fun e=>hap e.symm)).trans f33;obtain⟨a2,cap2,rfl⟩:=gCk hown2)
 go_end0
 exact⟨rfl,_,HS.out _ _ _ _ hown2 hgrow hat rfl⟩
theorem kY.trans {g:Nat}{v:Option Nat}{a b c:World}(h:kY g v a b)(k:kY g v b c):kY g v a c :=
 ⟨k.os.trans h.os,k.tape.trans h.tape,k.output.trans h.output,Nat.le_trans h.size k.size,fun i h1 h2 h3=>(k.block i (zzl h1 h.size) h2 h3).trans (h.block i h1 h2 h3)⟩
theorem Stk.alloc {w:World}{base g:Nat}{v:Value}{R:List Int}(h:Stk w base g v R)(o:Obj):Stk (w.alloc o) base g v R:=by
 have hlt:=h.cells.2.2.2.2.2
 obtain⟨h0,h1,cs,hg,hc⟩:=h
 refine⟨h0,h1.alloc o,cs,?_,hc⟩
 rw[zzf w o g hlt]
 exact hg
theorem zL {R:List Int}{i:Nat}(h:i<R.dropLast.length):R.dropLast.getD i 0=R.getD i 0:=by
 simp only[List.length_dropLast] at h
 rw[List.getD_eq_getElem?_getD,List.getD_eq_getElem?_getD,List.getElem?_dropLast,if_pos h]
theorem gIb (R:List Int)(h:32<=R.length):(R.dropLast).drop 32=(R.drop 32).dropLast:=by
 simp[List.dropLast_eq_take,List.drop_take]
 omega
theorem gNa {w:World}{base g:Nat}{v:Value}{R:List Int}(h:Stk w base g v R)(h0:0<R.length)(hR:R.length<=32)(w' : World)
  (hw:w' = w.setCell ⟨g,33,none⟩ (.int .i64 ((R.length:Int) - 1))):Stk w' base g v R.dropLast:=by
 subst hw
 have hap:=h.apart
 obtain⟨g0,h1,cs,hg,c0,c1,c2,c3,c4⟩:=h
 refine⟨g0,?_,cs.setIfInBounds 33 (.int .i64 ((R.length:Int) - 1)),heap_setCell_same _ g 33 _ _ _ hg,by simpa using c0,fun i hi hr=>?_,fun i hi=>?_,?_,?_⟩
 ·rw[show R.dropLast.length - 32=R.length - 32 from by simp;omega,show R.dropLast.drop 32=R.drop 32 from by rw[List.drop_eq_nil_of_le (by simp;omega),List.drop_eq_nil_of_le oo]]
  exact vG h1 _ _ _ hap
 ·rw[Array.getElem?_setIfInBounds_ne oo,zL hr]
  exact c1 i hi (by simp at hr;omega)
 ·rw[Array.getElem?_setIfInBounds_ne oo]
  exact c2 i hi
 ·rw[Array.getElem?_setIfInBounds_ne oo,c3]
 ·rw[Array.getElem?_setIfInBounds_self_of_lt oo,List.length_dropLast]
  simp
  omega
theorem gKg {w:World}{base g:Nat}{v:Value}{R:List Int}(h:Stk w base g v R){m:Nat}(hR:R.length=m+33) :
  ∃b cap,v=.slice (some ⟨b,0,none⟩) (m+1) cap/\m+1<=cap/\cap<=maxLen/\∀w' : World,w' = (w.setCell ⟨g,33,none⟩ (.int .i64 ((m+33:Nat) - 1:Int))).setCell ⟨g,32,none⟩ (.slice (some ⟨b,0,none⟩) m cap)->Stk w' base g (.slice (some ⟨b,0,none⟩) m cap) R.dropLast:=by
 have hap:=h.apart
 obtain⟨g0,h1,cs,hg,c0,c1,c2,c3,c4⟩:=h
 rw[hR,show m+33 - 32=m+1 from by omega] at h1
 obtain⟨b,cap,rfl,k1,k2,k3⟩:=gDk h1
 refine⟨b,cap,rfl,k1,k2,fun w' hw=>?_⟩
 subst hw
 have hap2:(Value.slice (some ⟨b,0,none⟩) m cap).ownBlock≠some g:=hap
 refine⟨g0,?_,(cs.setIfInBounds 33 (.int .i64 ((m+33:Nat) - 1:Int))).setIfInBounds 32 (.slice (some ⟨b,0,none⟩) m cap),heap_setCell_same _ g 32 _ _ _ (heap_setCell_same _ g 33 _ _ _ hg),by simpa using c0,fun i hi hr=>?_,fun i hi=>?_,?_,?_⟩
 ·rw[List.length_dropLast,hR,show m+33 - 1 - 32=m from by omega,gIb R oo]
  exact vG (vG k3 _ _ _ hap2) _ _ _ hap2
 ·rw[Array.getElem?_setIfInBounds_ne oo,Array.getElem?_setIfInBounds_ne oo,zL hr]
  exact c1 i hi (by simp at hr;omega)
 ·exact k134
 ·rw[Array.getElem?_setIfInBounds_self_of_lt (by simp;omega)]
 ·rw[Array.getElem?_setIfInBounds_ne oo,Array.getElem?_setIfInBounds_self_of_lt oo,List.length_dropLast,hR]
  simp
  omega
theorem gTg (base g:Nat)(v:Value)(R:List Int)(w:World)(h:Stk w base g v R)(hR2:R.length<=4398046511104) :
  Calls Tryz.prog 104 #[.pointer (some ⟨g,0,none⟩)] w fun e w' => e=.returned (.tuple #[])/\∃v', Stk w' base g v' R.dropLast/\kY g v.ownBlock w w' /\ v'.ownBlock=v.ownBlock:=by
 obtain⟨c1,c2,c3,c4,f,hg⟩:=h.cells
 have f32:=f 32
 have f33:=f 33
 clear c3 c4 f
 by_cases h0:R.length=0
 ·have HS:Hid (Stk w base g v R.dropLast):=by show Stk w base g v R.dropLast;rw[zK h0];exact h
  rw[h0] at c2;clear c1 h hR2;generalize R.dropLast=R' at *;go_enter Tryz.func104,Tryz.ntmps104;go_wp2;refine bodyPost_ret (results_none (by rfl) _ _ _) rfl ?_;exact⟨rfl,v,HS.out,kY.refl _ _ _,rfl⟩
 by_cases h1:R.length<=32
 ·have HS:Hid (∀w' : World,w' = w.setCell ⟨g,33,none⟩ (.int .i64 ((R.length:Int) - 1))->Stk w' base g v R.dropLast):=fun w' hw=>gNa h oo h1 w' hw
  clear c1 h hR2;generalize R.dropLast=R' at *;generalize R.length=n at *;(have e0:((n:Int)==0)=false:=by simpa using h0);go_enter Tryz.func104,Tryz.ntmps104;go_wp2
  go_end0
  exact⟨rfl,v,HS.out _ rfl,(kY.refl _ _ _).setCell _ _,rfl⟩
 ·obtain⟨m,hm⟩:∃m,R.length=m+33:=⟨R.length - 33,oo⟩
  obtain⟨b,cap,rfl,k1,k2,k3⟩:=gKg h hm;(have HS:Hid (∀w' : World,w' = (w.setCell ⟨g,33,none⟩ (.int .i64 ((m:Int)+33 - 1))).setCell ⟨g,32,none⟩ (.slice (some ⟨b,0,none⟩) m cap)->Stk w' base g (.slice (some ⟨b,0,none⟩) m cap) R.dropLast):=fun w' hw=>k3 w' (by rw[hw];simp));rw[hm] at c2 hR2;unfold maxLen at k2;clear k3 h h0 h1 hm;generalize R.dropLast=R' at *;(have e0:(((m+33:Nat):Int)==0)=false:=by simp;omega);go_enter Tryz.func104,Tryz.ntmps104;go_wp2
  go_region
  go_wp2
  go_end0
  exact⟨rfl,_,Stk.drew (HS.out _ rfl),(((kY.refl _ _ w).setCell _ _).setCell _ _).drew,rfl⟩
theorem k97{p:Prop}(h:p:=by
  go_enter Tryz.func78,Tryz.ntmps78;go_wp2_with fail
  go_quiet (fail)
  go_wp2;go_ret;exact⟨rfl,_,rfl⟩
  ):p:=h
theorem zY (base g:Nat)(v:Value)(R:List Int)(w:World)(h:Stk w base g v R)(hR2:R.length<=4398046511104) :
  Calls Tryz.prog 78 #[.pointer (some ⟨g,0,none⟩)] w fun e w' => e=.returned (.int .i64 (R.getLast?.getD (-1)))/\∃q,w' = w.drewN q:=by
 obtain⟨c1,c2,c3,c4,f,hg⟩:=h.cells
 clear f c3
 rcases Nat.eq_zero_or_pos R.length with h0 | h0
 ·obtain rfl:R=[]:=List.length_eq_zero_iff.1 h0
  clear c1 c4 h h0;simp only[List.length_nil] at c2;go_enter Tryz.func78,Tryz.ntmps78;go_wp2;go_ret;exact⟨rfl,0,rfl⟩
 obtain⟨m,hm⟩:∃m,R.length=m+1:=⟨R.length - 1,oo⟩
 rw[gOx hm]
 rw[hm] at c2
 have e0:(((m+1:Nat):Int)==0)=false:=by simp;omega
 by_cases h1:m<32
 ·have c5:=c4 m h1 oo
  clear c1 c4 h h0;generalize R.getD m 0=y at *;clear hm hR2;exact k97
 ·obtain⟨k,rfl⟩:∃k,m=k+32:=⟨m - 32,oo⟩
  have hown:=h.2.1;rw[hm,show k+32+1 - 32=k+1 from by omega] at hown;obtain⟨a', cap', rfl,hr⟩:=tW hown
  obtain⟨b,o,rfl,hbl,hc⟩:=(show ∃b o,a' = some ⟨b,o,none⟩/\b<w.heap.size/\∀i,i<k+1->w.cell? ⟨b,o+i,none⟩=some (.int .i64 ((R.drop 32).getD i 0)) from by
   rcases hr.2 with h | h
   ·omega
   ·exact h)
  have hc0:=hc k oo;rw[show (R.drop 32).getD k 0=R.getD (k+32) 0 from by rw[List.getD_eq_getElem?_getD,List.getD_eq_getElem?_getD,List.getElem?_drop,Nat.add_comm]] at hc0;clear hc hr hown c4 h h0 h1;generalize R.getD (k+32) 0=y at *;rw[hm] at hR2;clear hm;exact k97
theorem uC (base g:Nat)(v:Value)(R:List Int)(i:Nat)(x:Tok)(w:World)(h:Stk w base g v R)(hb:base<=w.heap.size)(hR2:R.length<=4398046511104) :
  Calls Tryz.prog 69 #[.pointer (some ⟨g,0,none⟩),.int .i64 (i:Int),nT x] w fun e w' => e=.returned (.tuple #[])/\∃v', Stk w' base g v' (lA x i R)/\kY g v.ownBlock w w' /\ (v'.ownBlock=v.ownBlock\/∀k,v'.ownBlock=some k->w.heap.size<=k):=by
 obtain⟨xk,xt,xn,xm⟩:=x
 unfold lA
 simp only[nT]
 have hal:∀o,Stk (w.alloc o) base g v R:=fun o=>h.alloc o
 have hK:∀o W,kY g v.ownBlock (w.alloc o) W->kY g v.ownBlock w W:=fun o W k=>(kY.trans ((kY.refl _ _ w).alloc o) k)
 have hF:∀(o:Obj) (v' : Value),(v'.ownBlock=v.ownBlock\/∀k,v'.ownBlock=some k->(w.alloc o).heap.size<=k)->(v'.ownBlock=v.ownBlock\/∀k,v'.ownBlock=some k->w.heap.size<=k):=by
  intro o v' hv;rcases hv with hv | hv
  ·exact .inl hv
  ·refine .inr fun k hk=>?_
   have:=hv k hk
   simp at this;omega
 by_cases k1:xk=1
 ·subst k1
  rw[if_pos rfl]
  have hp:Hid (∀o,Calls Tryz.prog 103 #[.pointer (some ⟨g,0,none⟩),.int .i64 (i:Int)] (w.alloc o) fun e w' => e=.returned (.tuple #[])/\∃v', Stk w' base g v' (R++[(i:Int)])/\kY g v.ownBlock (w.alloc o) w' /\ (v'.ownBlock=v.ownBlock\/∀k,v'.ownBlock=some k->(w.alloc o).heap.size<=k)):=by
   intro o
   by_cases hR:R.length<32
   ·refine(gYd base g v R i _ (hal o) hR).mono ?_
    rintro e w' ⟨e1,e2,e3⟩;exact⟨e1,v,e2,e3,.inl rfl⟩
   ·exact gTf base g v R i _ (hal o) (by simp;omega) oo hR2
  clear hal h;generalize R++[(i:Int)]=R' at *;go_enter Tryz.func69,Tryz.ntmps69;(go_wp2_with fail);refine(hp.out _).mono ?_;rintro e W ⟨rfl,v', s1,s2,s3⟩;go_wp2
  go_end0
  exact⟨rfl,v', s1,hK _ _ s2,hF _ _ s3⟩
 ·have e1:(xk==1)=false:=by simpa using k1
  rw[if_neg k1]
  by_cases k2:xk=2
  ·subst k2
   rw[if_pos rfl];(have hp:Hid (∀o,Calls Tryz.prog 104 #[.pointer (some ⟨g,0,none⟩)] (w.alloc o) fun e w' => e=.returned (.tuple #[])/\∃v', Stk w' base g v' R.dropLast/\kY g v.ownBlock (w.alloc o) w' /\ v'.ownBlock=v.ownBlock):=fun o=>gTg base g v R _ (hal o) hR2);clear hal h;generalize R.dropLast=R' at *;go_enter Tryz.func69,Tryz.ntmps69;(go_wp2_with fail);refine(hp.out _).mono ?_;rintro e W ⟨rfl,v', s1,s2,s3⟩;go_wp2
   go_end0
   exact⟨rfl,v', s1,hK _ _ s2,.inl s3⟩
  ·have e2:(xk==2)=false:=by simpa using k2
   rw[if_neg k2];go_enter Tryz.func69,Tryz.ntmps69;go_wp2
   go_end0
   exact⟨rfl,v,hal _,(kY.refl _ _ w).alloc _,.inl rfl⟩
theorem gMv (op:BinOp)(x y:Operand)(xs ys:Array Value)(W:World):(eqGuard op 58 x y (.agg xs) (.agg ys)).run Tryz.prog W=.ok () W:=run_eqGuard_agg W op 58 x y xs ys kr
theorem gVl (x y:Tok)(W:World):(Op.equalIn 10000 58 (nT x) (nT y)).run Tryz.prog W=.ok (gMw x y) W:=by
 have u3:=Tryz.underlying3
 have a3:=Tryz.isAgg3
 have z3:=Tryz.sizeOf3
 have hS:Tryz.prog.underlying 58=some (.struct (Tryz.prog.fieldsOf 58)):=by kernel_rfl
 have hp:Tryz.prog.stoodInHeld 58=false:=by kernel_rfl
 obtain⟨k,t,n,m⟩:=x
 obtain⟨k', t', n', m'⟩:=y
 simp only[nT]
 rw[show (10000:Nat)=9999+1 from rfl,run_equalIn_agg W 9999 58 _ _ hS hp]
 simp only[Program.fieldsOf,Tryz.underlying58]
 go_simp
 unfold gMw
 by_cases h1:k=k' <;> by_cases h2:t=t' <;> by_cases h3:n=n' <;> by_cases h4:m=m' <;> simp[h1,h2,h3,h4]
theorem hDt (x y:Tok)(W:World):(binOp .eql 58 (nT x) (nT y)).run Tryz.prog W=.ok (.bool (gMw x y)) W:=by
 rw[show nT x=.agg #[.int .i64 x.k,.int .i64 x.t,.int .i64 x.n,.int .i64 x.m] from rfl,show nT y=.agg #[.int .i64 y.k,.int .i64 y.t,.int .i64 y.n,.int .i64 y.m] from rfl,run_eql_struct]
 have h:=gVl x y W
 simp only[nT] at h
 rw[h]
 rfl
theorem gDt (s:Int)(w:World):Calls Tryz.prog 102 #[.int .i64 s] w fun e w' => e=.returned (.bool (qW s))/\w' = w:=by
 unfold qW
 cases h1:decide (0<=s)
 all_goals
  go_enter Tryz.func102,Tryz.ntmps102;go_wp2;go_ret;exact⟨rfl,rfl⟩
theorem k143{p:Prop}(h:p:=by
  go_enter Tryz.func101,Tryz.ntmps101;go_wp2;go_ret;exact⟨rfl,rfl⟩
  ):p:=h
theorem gLu (n:Int)(w:World):Calls Tryz.prog 101 #[.int .i64 n] w fun e w' => e=.returned (.bool (tY n))/\w' = w:=by
 by_cases a0:0<=n
 ·by_cases a1:n<55296
  ·rw[show tY n=true from by simp[tY];omega]
   exact k143
  ·by_cases a2:57343<n
   ·rw[show tY n=decide (n<=1114111) from by rw[Bool.eq_iff_iff];simp[tY];omega]
    exact k143
   ·rw[show tY n=false from by simp[tY];omega]
    exact k143
 ·rw[show tY n=false from by simp[tY];omega]
  have e0:decide (0<=n)=false:=by simpa using a0
  exact k143
theorem k126{p:Prop}(h:p:=by
  go_enter Tryz.func68,Tryz.ntmps68;go_wp2;go_ret;exact⟨rfl,(zzd _ _).alloc (zzb _) _⟩
  ):p:=h
theorem k64{p:Prop}(h:p:=by
  go_enter Tryz.func68,Tryz.ntmps68;(go_wp2_with fail);refine(c1 _).mono ?_;rintro e w' ⟨rfl,rfl⟩;(go_wp2_with fail);refine(c2 _).mono ?_;rintro e w' ⟨rfl,rfl⟩;go_wp2;go_ret;exact⟨rfl,(zzd _ _).alloc (zzb _) _⟩
  ):p:=h
theorem k11{p:Prop}(h:p:=by
  clear hq;cases h0:decide (1<=t)
  ·simp only[Bool.false_and]
   go_enter Tryz.func68,Tryz.ntmps68;go_wp2;go_ret;exact⟨rfl,(zzd _ _).alloc (zzb _) _⟩
  ·cases h1:decide (t<=15)
   ·simp only[Bool.and_false,Bool.false_and]
    go_enter Tryz.func68,Tryz.ntmps68;go_wp2;go_ret;exact⟨rfl,(zzd _ _).alloc (zzb _) _⟩
   ·cases h2:decide (0<=n)
    ·simp only[Bool.and_false,Bool.false_and]
     go_enter Tryz.func68,Tryz.ntmps68;go_wp2;go_ret;exact⟨rfl,(zzd _ _).alloc (zzb _) _⟩
    ·cases h3:decide (n<=15)
     ·simp only[Bool.and_false,Bool.false_and]
      go_enter Tryz.func68,Tryz.ntmps68;go_wp2;go_ret;exact⟨rfl,(zzd _ _).alloc (zzb _) _⟩
     ·cases h4:m==0
      ·simp only[Bool.and_false]
       go_enter Tryz.func68,Tryz.ntmps68;go_wp2;go_ret;exact⟨rfl,(zzd _ _).alloc (zzb _) _⟩
      ·go_enter Tryz.func68,Tryz.ntmps68
       go_wp2;go_ret;exact⟨rfl,(zzd _ _).alloc (zzb _) _⟩
  ):p:=h
theorem gLt (x:Tok)(w:World):Calls Tryz.prog 68 #[nT x] w fun e w' => e=.returned (.bool (qV x))/\Below w.heap.size w w' := by
 obtain⟨k,t,n,m⟩:=x
 have e16:decide (t<16)=decide (t<=15):=by by_cases h:t<=15<;>simp[h]<;>omega
 have hq:=fun W=>hDt ⟨k,t,n,m⟩ ⟨2,0,0,0⟩ W
 unfold nT qV
 simp only[nT,e16] at *
 clear e16
 by_cases k0:k=0
 ·subst k0
  rw[if_pos rfl];(have c1:=fun W=>gLu n W);(have c2:=fun W=>gDt m W);generalize tY n=p at *;generalize qW m=q at *;cases h0:t==0
  ·simp only[Bool.false_and]
   exact k126
  ·cases h1:p
   ·rw[h1] at c1
    simp only[Bool.and_false,Bool.false_and];go_enter Tryz.func68,Tryz.ntmps68;(go_wp2_with fail);refine(c1 _).mono ?_;rintro e w' ⟨rfl,rfl⟩;go_wp2;go_ret;exact⟨rfl,(zzd _ _).alloc (zzb _) _⟩
   ·rw[h1] at c1
    cases h2:q
    ·rw[h2] at c2
     simp only[Bool.and_false];exact k64
    ·rw[h2] at c2
     exact k64
 rw[if_neg k0]
 have e0:(k==0)=false:=by simpa using k0
 by_cases k1:k=1
 ·subst k1
  rw[if_pos (.inl rfl)];exact k11
 have e1:(k==1)=false:=by simpa using k1
 by_cases k3:k=3
 ·subst k3
  rw[if_pos (.inr rfl)];exact k11
 have e3:(k==3)=false:=by simpa using k3
 rw[if_neg oo]
 by_cases k2:k=2
 ·subst k2
  rw[if_pos rfl]
  have hd:gMw ⟨2,t,n,m⟩ ⟨2,0,0,0⟩=(t==0&&n==0&&m==0):=by
   rw[Bool.eq_iff_iff];simp[gMw,and_assoc]
  rw[hd] at hq;clear hd;(have hg:=fun (x y:Operand) (xs ys:Array Value) (W:World)=>gMv .eql x y xs ys W);generalize (t==0&&n==0&&m==0)=z at *;exact k126
 have e2:(k==2)=false:=by simpa using k2
 rw[if_neg k2]
 clear hq
 exact k126
end Go.Proofs.YtjkebndkeamijaaGreatDoor
