/-
  PROVED HERE: what the texts DALaidE, DACaretP, DACaretS, DAP8Rng, DAP8Held, DAP8Parts, DAP8Send, DACaretO say.
-/
import Derived.Test.YtjkebndkeamijaaGreatDoorCards
import Derived.Test.YtjkebndkeamijaaGreatDoorTie
import Derived.Test.YtjkebndkeamijaaGreatDoorCADAParseC
import Derived.OpenShut
import Derived.Deep.DeepHandedRow
import Derived.LaidLaws
import Derived.LaidHandle
import Derived.ChangeMaps5
import Derived.DataShut
import Derived.ChangeSame
import Derived.ChangeArms
import Derived.RangeFuncRecord
import Derived.OrdersIn
import Derived.RangeFuncCalls
import Derived.RangeFuncNested
import Derived.RangeFuncBox
import Derived.RangeFuncBound
import Derived.RangeFuncLeaves
import Derived.Shelf.Abstract
import Derived.Shelf.RegionOpen
import Derived.TacticsInMore
import Derived.LoopNIn
import Derived.LoopIn
set_option maxRecDepth 100000
set_option maxHeartbeats 4000000
namespace Go.Proofs.YtjkebndkeamijaaGreatDoor
open Go.ChangeShapes Go.WideShapes Go.ChangeAt Go.RowKit
theorem hHa : Tryz.prog.globalNamed "errors.errorType" = some 1 := by kernel_rfl
theorem hGz : (Tryz.prog.cutTypes.find? (·.1 == "internal/reflectlite.rtype")).map (·.2) = some 243 := by kernel_rfl
theorem hAn:((List.range 286).filter fun t=>Tryz.prog.rowNamed t [101,114,114,111,114])=[206]:=by kernel_rfl
theorem hGi:Tryz.prog.types.size=286:=by kernel_rfl
def gEt : List (String × DataW Unit) := [("errors.errorType", Rows.laid_errors_errorType)]
theorem gLz {W:World}(h:laidMetH Tryz.prog gEt W):ETy W:=by
 have h' : laidMet Tryz.prog [] W/\handlesMet Tryz.prog gEt W:=h
 obtain⟨name,u,ty,e1,e2,e3,e4,e5⟩:=h'.2 _ (List.mem_singleton.2 rfl)
 have en:name=[101,114,114,111,114]:=(zzo e1).symm
 subst en
 obtain rfl:=zzo (hGz.symm.trans e2)
 have hm:ty∈(List.range 286).filter fun t=>Tryz.prog.rowNamed t [101,114,114,111,114]:=List.mem_filter.2 ⟨List.mem_range.2 (by rw[<-hGi];exact e3),e4⟩
 rw[hAn] at hm
 obtain rfl:=List.mem_singleton.1 hm
 have hh:typeHandle Tryz.prog 206=.pointer (some ⟨3,206,none⟩):=by kernel_rfl
 rw[hh] at e5
 unfold ETy
 simpa using World.var?_cell hHa e5 0
noncomputable def zV (os:Os):World :=
 let w0:=World.holding Tryz.prog os ⟨#[],#[],[]⟩
 { w0 with heap:=w0.heap.modify 1 fun
   | .cells _ t frozen=>.cells #[.iface 243 (.agg #[.pointer (some ⟨3,206,none⟩)])] t frozen
   | o=>o }
theorem gXt (os:Os)(args:Array Value):laidMetH Tryz.prog gEt ((zV os).forCall (fun _ _=>0) ⟨#[],args,[]⟩).memory :=
 laidMetH_of_parts (laidMet_nil _ _) kr
end Go.Proofs.YtjkebndkeamijaaGreatDoor
namespace Go.Proofs.YtjkebndkeamijaaGreatDoor
open Go.RowKit
theorem jG {p:Prop}(h:p):Hid p:=h
def mS (n:Nat)(p:Int):Bool:=decide (0<=p)&&decide (p<=(n:Int))
theorem jM {n:Nat}{p:Int}:mS n p=true↔0<=p/\p<=(n:Int):=by simp[mS]
def tM (s:Int):Int:=if s<0 then -1 else 1
theorem gUb (s:Int):tM s=1\/tM s = -1:=by unfold tM;split<;>simp
def gGd (n:Nat)(a y:Int)(k:Nat):List Int:=[a+y * ((k:Int)+1),a - y * ((k:Int)+1)].filter (mS n)
def nC (n:Nat)(a y:Int)(k:Nat):List Int:=a::(List.range k).flatMap (gGd n a y)
theorem sI (n:Nat)(a y:Int)(k:Nat):nC n a y (k+1)=nC n a y k++gGd n a y k:=by
 unfold nC
 rw[List.range_succ,List.flatMap_append,List.flatMap_singleton,List.cons_append]
def rT (F:Int->Bool)(n:Nat)(a y:Int):Int×Int:=match (nC n a y n).find? F with
 | some p=>(p,0)
 | none=>(0,6)
theorem gUj (n:Nat)(a y:Int){k m:Nat}(h:k<=m):∃r,nC n a y m=nC n a y k++r:=by
 induction m with
 | zero=>
  obtain rfl:k=0:=by omega
  exact⟨[],by simp⟩
 | succ m ih=>
  by_cases e:k=m+1
  ·subst e;exact⟨[],by simp⟩
  ·obtain⟨r,hr⟩:=ih oo
   rw[sI,hr,List.append_assoc];exact⟨_,rfl⟩
def sD (y:Int):Nat->Int->List Int
 | 0,_=>[]
 | k+1,p=>(p+y)::sD y k (p+y)
theorem gBr (y:Int):∀(i k:Nat) (p:Int),sD y (i+k) p=sD y i p++sD y k (p+y * (i:Int))
 | 0,k,p=>by simp[sD]
 | i+1,k,p=>by
  rw[show i+1+k=(i+k)+1 by omega,sD,sD,gBr y i k (p+y),List.cons_append,show p+y * ((i+1:Nat):Int)=p+y+y * (i:Int) by rw[Int.natCast_add,Int.mul_add];omega]
theorem gJp (y:Int)(k:Nat)(p:Int):sD y (k+1) p=sD y k p++[p+y * ((k:Int)+1)]:=by
 rw[gBr y k 1 p,sD,sD,show p+y * (k:Int)+y=p+y * ((k:Int)+1) by rw[Int.mul_add];omega]
theorem gDz (y:Int):∀(k:Nat) (p:Int),(sD y k p).length=k
 | 0,_=>rfl
 | k+1,p=>by rw[sD,List.length_cons,gDz y k]
def rC (n:Nat)(a y:Int):Nat:=if y<0 then a.toNat else n - a.toNat
def tS (F:Int->Bool)(y:Int)(s:Int×Int)(p:Int):Int×Int:=if s.2=0 then s else if F p=true then (p,s.2 - y) else s
def hBe (F:Int->Bool)(n:Nat)(a y b:Int):Int×Int:=(sD y (rC n a y) a).foldl (tS F y) (a,b)
def zC (F:Int->Bool)(n:Nat)(a y b:Int):Int:=(hBe F n a y b).1
theorem gCu (F:Int->Bool)(y:Int):∀(l:List Int) (a:Int),l.foldl (tS F y) (a,0)=(a,0)
 | [],_=>rfl
 | x::l,a=>by rw[List.foldl_cons,show tS F y (a,0) x=(a,0) from by simp[tS],gCu F y l a]
theorem gSm (F:Int->Bool)(n:Nat)(a y:Int):zC F n a y 0=a:=by unfold zC hBe;rw[gCu]
theorem hFg {n:Nat}{a y:Int}(hy:y=1\/y = -1)(ha:mS n a=true){i:Nat}(h:i<rC n a y):mS n (a+y * ((i:Int)+1))=true/\rC n a y=i+1+rC n (a+y * ((i:Int)+1)) y:=by
 rw[jM] at ha ⊢
 unfold rC at *
 rcases hy with rfl | rfl
 ·rw[if_neg (by decide)] at h ⊢;rw[if_neg (by decide)];omega
 ·rw[if_pos (by decide)] at h ⊢;rw[if_pos (by decide)];omega
theorem gDa (s:Int)(w:World):Calls Tryz.prog 66 #[.int .i64 s] w fun e w' => e=.returned (.int .i64 (tM s))/\w' = w:=by
 unfold tM
 by_cases h:s<0
 ·rw[if_pos h]
  (have hd:decide (s<0)=true:=by simpa using h);go_enter Tryz.func66,Tryz.ntmps66;go_wp2;go_ret;exact⟨rfl,rfl⟩
 ·rw[if_neg h]
  (have hd:decide (s<0)=false:=by simpa using h);go_enter Tryz.func66,Tryz.ntmps66;go_wp2;go_ret;exact⟨rfl,rfl⟩
theorem uI (n:Nat)(p:Int)(w:World):Calls Tryz.prog 98 #[.int .i64 (n:Int),.int .i64 p] w fun e w' => e=.returned (.bool (mS n p))/\w' = w:=by
 unfold mS
 cases h1:decide (0<=p)
 all_goals
  go_enter Tryz.func98,Tryz.ntmps98;go_wp2;go_ret;exact⟨rfl,rfl⟩
def yF (w:World)(B:Nat)(a:Option Addr)(len cap:Nat)(A E:Int):Prop:=∀X,Below w.heap.size w X->Calls Tryz.prog 10 #[.pointer (some ⟨B,0,none⟩),.slice a len cap] X fun e X' => e=.returned (.tuple #[.int .i64 A,.int .i64 E])/\Below X.heap.size X X'
def gQp (w:World)(B:Nat)(a:Option Addr)(len cap:Nat)(F:Int->Bool):Prop:=∀X,Below w.heap.size w X->∀p,Calls Tryz.prog 14 #[.pointer (some ⟨B,0,none⟩),.slice a len cap,.int .i64 p,.int .i64 0] X fun e X' => e=.returned (.bool (F p))/\Below X.heap.size X X'
theorem gQp.below {w w' : World}{B:Nat}{a:Option Addr}{len cap:Nat}{F:Int->Bool}(h:gQp w B a len cap F)(hb:Below w.heap.size w w'):gQp w' B a len cap F:=fun X hX p=>h X (hb.trans (hX.mono hb.size)) p
theorem yF.below {w w' : World}{B:Nat}{a:Option Addr}{len cap:Nat}{A E:Int}(h:yF w B a len cap A E)(hb:Below w.heap.size w w'):yF w' B a len cap A E:=fun X hX=>h X (hb.trans (hX.mono hb.size))
def qC (E:Int)(n:Nat)(p:Int):Int:=if E=0 then if mS n p=true then 0 else 1 else E
theorem k60{p:Prop}(h:p:=by
  go_enter Tryz.func63,Tryz.ntmps63;(go_wp2_with fail);refine HC.out.mono ?_;rintro e W ⟨rfl,hB⟩;have HB:=jG hB;clear hB HC;(go_wp2_with fail);refine(HP.out _).mono ?_;rintro e W' ⟨rfl,rfl⟩;go_wp2;go_ret;exact⟨rfl,HB.out⟩
  ):p:=h
theorem vP {w:World}{B:Nat}{a:Option Addr}{len cap:Nat}{A E:Int}(h:yF w B a len cap A E)(_hlen:(len:Int)<=9223372036854775807)(p:Int)(X:World)(hX:Below w.heap.size w X) :
  Calls Tryz.prog 63 #[.pointer (some ⟨B,0,none⟩),.slice a len cap,.int .i64 p] X fun e X' => e=.returned (.int .i64 (qC E len p))/\Below X.heap.size X X' := by
 have HC:=jG (h X hX)
 have HP:Hid (∀W:World,Calls Tryz.prog 98 #[.int .i64 (len:Int),.int .i64 p] W fun e w' => e=.returned (.bool (mS len p))/\w' = W):=fun W=>uI len p W
 unfold qC
 clear h hX
 by_cases hE:E=0
 ·subst hE
  rw[if_pos rfl];generalize mS len p=q at *;cases q with
  | true=>
   rw[if_pos rfl];exact k60
  | false=>
   rw[if_neg (by decide)];exact k60
 ·rw[if_neg hE]
  (have hd:(E != 0)=true:=by simpa using hE);clear HP;go_enter Tryz.func63,Tryz.ntmps63;(go_wp2_with fail);refine HC.out.mono ?_;rintro e W ⟨rfl,hB⟩;have HB:=jG hB;clear hB HC;go_wp2;go_ret;exact⟨rfl,HB.out⟩
def gMy (F:Int->Bool)(E:Int)(n:Nat)(p:Int):Bool:=if qC E n p=0 then F p else false
theorem gQw {w:World}{B:Nat}{a:Option Addr}{len cap:Nat}{A E:Int}{F:Int->Bool}(h:yF w B a len cap A E)(hm:gQp w B a len cap F)(hlen:(len:Int)<=9223372036854775807)(p:Int)(X:World)(hX:Below w.heap.size w X) :
  Calls Tryz.prog 24 #[.pointer (some ⟨B,0,none⟩),.slice a len cap,.int .i64 p] X fun e X' => e=.returned (.tuple #[.bool (gMy F E len p),.int .i64 (qC E len p)])/\Below X.heap.size X X' := by
 have HC:=jG (vP h hlen p X hX)
 have HM:Hid (∀W,Below X.heap.size X W->Calls Tryz.prog 14 #[.pointer (some ⟨B,0,none⟩),.slice a len cap,.int .i64 p,.int .i64 0] W fun e X' => e=.returned (.bool (F p))/\Below W.heap.size W X'):=fun W hW=>hm W (hX.trans (hW.mono hX.size)) p
 unfold gMy
 generalize qC E len p=q at *
 generalize F p=f at *
 clear h hm hX
 by_cases hq:q=0
 ·subst hq
  rw[if_pos rfl];go_enter Tryz.func24,Tryz.ntmps24;(go_wp2_with fail);refine HC.out.mono ?_;rintro e W ⟨rfl,hB⟩;have HB:=jG hB;have HM2:=jG (HM.out W hB);clear hB HC HM;(go_wp2_with fail);refine HM2.out.mono ?_;rintro e W' ⟨rfl,hB2⟩;have HB2:=jG (HB.out.trans (hB2.mono HB.out.size));clear hB2;go_wp2;go_ret2;exact⟨rfl,HB2.out⟩
 ·rw[if_neg hq]
  (have hd:(q != 0)=true:=by simpa using hq);clear HM;go_enter Tryz.func24,Tryz.ntmps24;(go_wp2_with fail);refine HC.out.mono ?_;rintro e W ⟨rfl,hB⟩;have HB:=jG hB;clear hB HC;go_wp2;go_ret2;exact⟨rfl,HB.out⟩
structure Rng where
 a:Int
 o:Int
 n:Int
def gKa (n:Int):Bool:=decide (0<=n)&&decide (n<=65536)
def hGf (x:Rng)(e:Int):Bool:=gKa x.a&&(gKa x.o&&(gKa x.n&&decide (e<=x.a)))
def gZw:List Rng->Int->Bool
 | [],_=>true
 | x::r,e=>hGf x e&&gZw r (x.a+x.o)
def right (l:List Rng):Bool:=decide (l.length<=4)&&gZw l 0
def inner (x:Rng)(p:Int):Bool:=decide (x.a<p)&&decide (p<x.a+x.o)
theorem jS {w:World}{B:Nat}{a:Value}{t:TypeId}(h:w.heap[B]? = some (.cells #[a] t (0,0))):w.cell? ⟨B,0,none⟩=some a/\w.frozen? ⟨B,0,none⟩=false:=⟨cell_of_row w B 0 _ _ _ h,by simp[World.frozen?,h]⟩
def gGj (Q:Exit->Act->World->Prop):Exit->Act->World->Prop
 | .normal,a,w=>Q .normal a w
 | _,_,_=>False
def gBa (ops:Array Oper):Bool:=ops.all fun o=>match o.op with
 | .defer _=>false
 | _=>true
theorem gAz {ops:Array Oper}(h:gBa ops=true){i:Nat}{o:Oper}(ho:ops[i]? = some o):∀c,o.op ≠ .defer c:=by
 intro c e
 obtain⟨hi,rfl⟩:=zza.1 ho
 have:=Array.all_eq_true.1 h i hi
 simp only[e] at this
 cases this
theorem k137{p:Prop}(h:p:=by
  refine⟨(fun e=>by cases e),fun c cs _=>?_⟩;obtain⟨v,w', r,s⟩:=h c cs;exact⟨v,w', r,stepsIn_wide.2 s⟩
  ):p:=h
theorem k111{p:Prop}(h:p:=by
  intro e w'' he;cases e with
  | returned v=>exact he
  | panicked c=>exact he.elim
  | outgrown=>obtain⟨_,_,h⟩:=he;exact h.elim
  ):p:=h
theorem gQr {P:Program}{o:Oper}{a:Act}{w:World}{K:Act->World->Prop}{Q:Exit->Act->World->Prop}{l n:Nat}(hd:∀c,o.op ≠ .defer c)(h:o.wp P a w K (gGj Q)):o.wpIn (Fence.wide.inRound l) n P a w K Q:=by
 unfold Oper.wpIn
 refine⟨fun _ _=>trivial,?_⟩
 rw[Oper.semAt_eq _ _ _ hd]
 unfold Oper.wp at h
 generalize (execOp a.eval o).run P w=r at h
 cases r with
 | ok x w' =>
  cases x with
  | value v=>exact h
  | skip=>exact h
  | defer d=>exact h
  | enter f args=>
   refine⟨(fun e=>by cases e),CallsIn.inRound l (callsIn_wide.2 (h.mono ?_))⟩;exact k111
  | row row args=>
   exact k137
  | _=>exact h.elim
 | halt x w' =>
  cases x with
  | panic v=>exact h.elim
  | _=>exact h.elim
theorem vZ {P:Program}{md:Region.Mode}{ops:Array Oper}{Q:Exit->Act->World->Prop}{l n:Nat}(hd:gBa ops=true):∀(fuel:Nat) (listed:Array Bool) (a:Act) (w:World),wpAny P md ops (gGj Q) fuel listed a w->wpAnyIn (Fence.wide.inRound l) n P md ops Q fuel listed a w
 | 0,_,_,_,h=>h
 | fuel+1,listed,a,w,h=>by
  refine⟨h.1,fun i hi=>?_⟩;have h2:=wpOp_mono (fun a' w' h' => vZ (n:=n) (l:=l) hd fuel (listed.setIfInBounds i true) a' w' h') (h.2 i hi);unfold wpOp at h2;unfold wpOpIn
  split
  ·rename_i e
   simp only[e] at h2;exact h2
  ·rename_i o ho
   simp only[ho] at h2
   split
   ·rename_i hw
    simp only[hw,if_true] at h2;rcases h2 with h2 | ⟨_,_,_,h2⟩
    ·exact gQr (gAz hd ho) h2
    ·exact h2.elim
   ·rename_i hw
    simp only[hw] at h2;exact⟨fun _ _=>trivial,h2⟩
theorem gEf {P:Program}{S:World->Prop}{id:Nat}{ops:Array Oper}{Q:Exit->Act->World->Prop}{a:Act}{w:World}{l n:Nat}(hm:P.follows .mixedOrders=true)(hd:gBa ops=true)(hS:S w.drew)
  (h:S w.drew->wpAnyH P .any ops (gGj Q) S ops.size (Array.replicate ops.size false) a w.drew):(Code.region id ops true).wpIn (Fence.wide.inRound l) n P Q a w :=
 wpIn_region_any hm (vZ hd _ _ _ _ (wpAny_of_held _ _ _ _ (h hS)))
theorem gJd (w:World)(o0:Obj){k:Nat}{o:Obj}(h:w.heap[k]? = some o):(w.alloc o0).heap[k]? = some o:=(zzf w _ k (zza.1 h).1).trans h
theorem hFv (w:World)(o0 o1:Obj):((w.alloc o0).alloc o1).heap[w.heap.size]? = some o0/\((w.alloc o0).alloc o1).heap[w.heap.size+1]? = some o1:=by
 refine⟨gJd _ _ (World.alloc_heap_new w o0),?_⟩
 have:=World.alloc_heap_new (w.alloc o0) o1
 rwa [World.size_alloc] at this
theorem hCd (w:World)(o0 o1 o2:Obj):(((w.alloc o0).alloc o1).alloc o2).heap[w.heap.size]? = some o0/\(((w.alloc o0).alloc o1).alloc o2).heap[w.heap.size+1]? = some o1/\(((w.alloc o0).alloc o1).alloc o2).heap[w.heap.size+1+1]? = some o2:=by
 obtain⟨h0,h1⟩:=hFv w o0 o1
 have:=World.alloc_heap_new ((w.alloc o0).alloc o1) o2
 rw[World.size_alloc,World.size_alloc] at this
 exact⟨gJd _ _ h0,gJd _ _ h1,this⟩
theorem hFu (w:World)(o0 o1 o2 o3:Obj):((((w.alloc o0).alloc o1).alloc o2).alloc o3).heap[w.heap.size]? = some o0/\((((w.alloc o0).alloc o1).alloc o2).alloc o3).heap[w.heap.size+1]? = some o1/\((((w.alloc o0).alloc o1).alloc o2).alloc o3).heap[w.heap.size+1+1]? = some o2/\((((w.alloc o0).alloc o1).alloc o2).alloc o3).heap[w.heap.size+1+1+1]? = some o3:=by
 obtain⟨h0,h1,h2⟩:=hCd w o0 o1 o2
 have:=World.alloc_heap_new (((w.alloc o0).alloc o1).alloc o2) o3
 rw[World.size_alloc,World.size_alloc,World.size_alloc] at this
 exact⟨gJd _ _ h0,gJd _ _ h1,gJd _ _ h2,this⟩
theorem mixed:Tryz.prog.follows .mixedOrders=true:=by kernel_rfl
end Go.Proofs.YtjkebndkeamijaaGreatDoor
namespace Go.Proofs.YtjkebndkeamijaaGreatDoor
open Go.RowKit Go.Shelf
attribute [local go_sem] Oper.semAt_some
end Go.Proofs.YtjkebndkeamijaaGreatDoor
namespace Go.Proofs.YtjkebndkeamijaaGreatDoor
open Go.RowKit Go.Shelf
attribute [local go_sem] Oper.semAt_some
theorem lP {B:Nat}{W W' : World}{row:Option Nat}(hg:W.grownBy W' row)(hr:∀r,row=some r->B<=r/\∃o:Obj,W.heap[r]? = some o/\o.isCells=false){k:Nat}{c:Array Value}{t:TypeId}(hk:W.heap[k]? = some (.cells c t (0,0))):W'.heap[k]? = some (.cells c t (0,0)) :=
 (hg.block k (zza.1 hk).1 (fun e=>by
  obtain⟨_,ob,h1,h2⟩:=hr k e.symm;rw[hk] at h1;cases h1
  cases h2)).trans hk
theorem sC {n B:Nat}{w W W' : World}{row:Option Nat}(hb:Below n w W)(hg:W.grownBy W' row)(hr:∀r,row=some r->B<=r/\∃o:Obj,W.heap[r]? = some o/\o.isCells=false)(hn:n<=B)(hs:n<=W.heap.size):Below n w W' :=
 hb.grown hg hs (fun k e=>by have:=(hr k e).1;omega)
end Go.Proofs.YtjkebndkeamijaaGreatDoor
namespace Go.Proofs.YtjkebndkeamijaaGreatDoor
open Go.RowKit Go.Shelf
attribute [local go_sem] Oper.semAt_some
theorem wJ {P:Program}{fn:Func}{p u:Tmp}{t1 t2:TypeId}(h:fn.results=#[.cell p t1,.cell u t2])(tmps:Array Value)(w:World)(a1 a2:Addr)(v1 v2:Value)(hp:tmps.getD p undef=.pointer (some a1))(hu:tmps.getD u undef=.pointer (some a2))
  (i1:(isAgg t1).run P w=.ok false w) (i2:(isAgg t2).run P w=.ok false w) (c1:w.cell? a1=some v1) (c2:w.cell? a2=some v2):(results fn tmps).run P w=.ok (.tuple #[v1,v2]) w:=by
 simp only[results,h]
 have hp' : tmps[p]?.getD undef=.pointer (some a1):=by simpa using hp
 have hu' : tmps[u]?.getD undef=.pointer (some a2):=by simpa using hu
 simp[Sem.run_bind,Result.andThen,asAddr,hp', hu', loadVar,i1,i2,go_sem,c1,c2]
theorem gOc (F:Fence)(n:Nat)(h30:F.fn 65)(hro:F.round=none)(s a y:Int)(w:World) :
  CallsIn F n Tryz.prog 65 #[.int .i64 s,.int .i64 a,.int .i64 y] w fun e w' => e=.returned (.func (.func 99) #[] #[.pointer (some ⟨w.heap.size+1,0,none⟩),.pointer (some ⟨w.heap.size,0,none⟩),.pointer (some ⟨w.heap.size+1+1,0,none⟩)]) ∧
   w' = ((w.alloc (.cells #[.int .i64 s] 3)).alloc (.cells #[.int .i64 a] 3)).alloc (.cells #[.int .i64 y] 3):=by
 refine callsIn_of_wp Tryz.func65 rfl h30 ?_ hro
 simp only[Tryz.ntmps65,List.size_toArray,List.length_cons,List.length_nil,Nat.reduceAdd,Nat.reduceSub,Array.replicate_succ,Array.replicate_zero,List.push_toArray,List.append_toArray,List.nil_append,List.cons_append]
 gi_wp2
 go_ret
 exact⟨rfl,rfl⟩
def KpC (m:Nat)(W W' : World):Prop:=W.heap.size<=W'.heap.size/\∀k,m<=k->k<=m+1+1->W'.heap[k]? = W.heap[k]?
theorem KpC.trans {m:Nat}{A B C:World}(h:KpC m A B)(k:KpC m B C):KpC m A C:=⟨Nat.le_trans h.1 k.1,fun i h1 h2=>(k.2 i h1 h2).trans (h.2 i h1 h2)⟩
def gMi (W:World)(m size:Nat)(a y:Int):Prop:=W.heap[m]? = some (.cells #[.int .i64 (size:Int)] 3 (0,0))/\W.heap[m+1]? = some (.cells #[.int .i64 a] 3 (0,0))/\W.heap[m+1+1]? = some (.cells #[.int .i64 y] 3 (0,0))
theorem gMi.kp {W W' : World}{m size:Nat}{a y:Int}(h:gMi W m size a y)(k:KpC m W W'):gMi W' m size a y:=⟨(k.2 _ oo oo).trans h.1,(k.2 _ oo oo).trans h.2.1,(k.2 _ oo oo).trans h.2.2⟩
theorem gMi.at_ {W:World}{m size:Nat}{a y:Int}(h:gMi W m size a y):W.cell? ⟨m,0,none⟩=some (.int .i64 (size:Int))/\W.cell? ⟨m+1,0,none⟩=some (.int .i64 a)/\W.cell? ⟨m+1+1,0,none⟩=some (.int .i64 y):=⟨(jS h.1).1,(jS h.2.1).1,(jS h.2.2).1⟩
theorem gOf (n:Nat)(a y:Int)(k:Nat):(nC n a y k).length<=2 * k+1:=by
 induction k with
 | zero=>simp[nC]
 | succ k ih=>
  rw[sI,List.length_append]
  have:(gGd n a y k).length<=2:=by unfold gGd;exact List.length_filter_le _ _
  omega
theorem hCn (p q:Int)(W:World):(Instr.index 143 (.agg #[.int .i64 p,.int .i64 q]) (.int .i64 0)).run Tryz.prog W=.ok (.int .i64 p) W/\(Instr.index 143 (.agg #[.int .i64 p,.int .i64 q]) (.int .i64 1)).run Tryz.prog W=.ok (.int .i64 q) W:=by
 constructor
 ·kernel_rfl
 ·kernel_rfl
def lE (n:Nat)(p q:Int):Nat->List Int
 | 0=>[]
 | 1=>[p].filter (mS n)
 | _+2=>[p,q].filter (mS n)
theorem gPh (n:Nat)(p q:Int)(l:List Int):l++lE n p q 1 <+: l++lE n p q 2:=by
 rw[lE,lE]
 refine(List.prefix_append_right_inj l).2 ?_
 cases e:mS n p<;>simp[e]
theorem gDs (n:Nat)(p q:Int)(j:Nat)(h:j<=1):(lE n p q j).length<=1:=by
 match j,h with
 | 0,_=>simp[lE]
 | 1,_=>exact List.length_filter_le _ _
theorem k92{p:Prop}(h:p:=by
  rw[HHJ.out hip] at hJx4;clear hY2
  gi_wp2
  refine bodyPost_ret (results_none rfl _ _ _) rfl ?_;exact⟨⟨_,rfl⟩,.inr ⟨_,HPF.out _ HPX.out,hJx4⟩⟩
  ):p:=h
theorem gKx (n:Nat)(hn:1<=n)(li m size:Nat)(a y:Int)(hy:y=1\/y = -1)(ha:0<=a/\a<=(size:Int))(hs:size<=2048)
  (J Jx:List Int->World->Prop) (W:World)
  (hY:∀pre p W1,J pre W1->pre.length<2 * size+2->YieldAt Fence.wide (n - 1) Tryz.prog li (#[.int .i64 p]) W1 fun e W' =>
   (e=.returned (.bool true)/\J (pre++[p]) W' /\ KpC m W1 W')\/(e=.returned (.bool false)/\Jx (pre++[p]) W'))
  (hv:gMi W m size a y)(h0:J [] W) :
  CallsIn Fence.wide n Tryz.prog 99 #[.func (.yield li) #[] #[],.pointer (some ⟨m+1,0,none⟩),.pointer (some ⟨m,0,none⟩),.pointer (some ⟨m+1+1,0,none⟩)] W fun e W' => (∃v,e=.returned v) ∧
   ((∃ys,ys=nC size a y size/\J ys W')\/(∃pre,pre <+: nC size a y size/\Jx pre W')):=by
 refine callsIn_of_wp Tryz.func99 rfl trivial ?_ rfl
 simp only[Tryz.ntmps99,List.size_toArray,List.length_cons,List.length_nil,Nat.reduceAdd,Nat.reduceSub,Array.replicate_succ,Array.replicate_zero,List.push_toArray,List.append_toArray,List.nil_append,List.cons_append]
 have HY:Hid (∀pre p W1,J pre W1->pre.length<2 * size+2->YieldAt Fence.wide (n - 1) Tryz.prog li (#[.int .i64 p]) W1 fun e W' =>
   (e=.returned (.bool true)/\J (pre++[p]) W' /\ KpC m W1 W')\/(e=.returned (.bool false)/\Jx (pre++[p]) W')):=hY
 have HV:=jG hv
 have HPL:Hid (∀(d:Nat) (p:Int) (X:World),CallsIn Fence.wide d Tryz.prog 98 #[.int .i64 (size:Int),.int .i64 p] X fun e w' => e=.returned (.bool (mS size p))/\w' = X):=fun _ p X=>callsIn_wide.2 (uI size p X)
 have hfn:Fence.wide.fn 98:=trivial
 obtain⟨v0,v1,v2⟩:=hv.at_
 obtain⟨fn,tmps,assign,body,hy0,hY1⟩:=hY [] a W h0 (by simp)
 clear hv hY
 gi_wp2
 refine hY1.mono ?_
 rintro e W3 (⟨rfl,hJ3,hk3⟩ | ⟨rfl,hJx3⟩)
 ·have hv3:=HV.out.kp hk3
  obtain⟨u0,u1,u2⟩:=hv3.at_;have HV3:=jG hv3;clear hv3 hk3 hY1
  gi_wp2
  gi_loopw [5] (fun q wr=>∃k:Nat,k<=size/\q=.int .i64 ((k:Int)+1)/\J (nC size a y k) wr/\gMi wr m size a y) (fun q _=>size+1 - (intOf q).toNat)
  case atStart=>exact⟨0,oo,rfl,hJ3,HV3.out⟩
  case round=>
   obtain⟨k,hk,rfl,hJs,hvr⟩:=hrel;obtain⟨r0,r1,r2⟩:=hvr.at_;have HVR:=jG hvr;have HJS:=jG hJs;clear hvr hJs
   by_cases hlt:k<size
   ·have hki:(k:Int)+1<=(size:Int):=by omega
    (have hsi:(size:Int)<=2048:=by omega);obtain⟨ya,hya⟩:∃ya,ya=y * ((k:Int)+1):=⟨_,rfl⟩;(have hyb : -2048<=ya/\ya<=2048:=by rcases hy with rfl | rfl<;>omega);have HYA:=jG hya;have HFI:Hid (∀X,J (nC size a y k++lE size (a+y * ((k:Int)+1)) (a - y * ((k:Int)+1)) 2) X->J (nC size a y (k+1)) X):=fun X h=>by rw[sI];exact h
    have HPF:Hid (∀l:List Int,l <+: nC size a y k++lE size (a+y * ((k:Int)+1)) (a - y * ((k:Int)+1)) 2->l <+: nC size a y size):=fun l h=>by
     obtain⟨r,hr⟩:=gUj size a y (k:=k+1) (m:=size) oo;rw[hr,sI];exact h.trans ⟨r,rfl⟩
    have HLN:=jG (show (nC size a y k).length<2 * size from by have:=gOf size a y k;omega)
    gi_wp2
    generalize a+y * ((k:Int)+1)=pa at *;generalize a - y * ((k:Int)+1)=pb at *;generalize y * ((k:Int)+1)=yk at *;clear hya HYA
    gi_loopw [28] (fun q X=>∃j:Nat,j<=2/\q=.int .i64 (j:Int)/\J (nC size a y k++lE size pa pb j) X/\gMi X m size a y) (fun q _=>2 - (intOf q).toNat)
    case atStart=>exact⟨0,oo,rfl,by simpa [lE] using HJS.out,HVR.out⟩
    case round=>
     obtain⟨j,hj,rfl,hJj,hvj⟩:=hrel;obtain⟨s0,s1,s2⟩:=hvj.at_;have HVJ:=jG hvj;have HJJ:=jG hJj;clear hvj hJj;(have x0:=fun W=>(hCn pa pb W).1);have x1:=fun W=>(hCn pa pb W).2
     match j,hj with
     | 0,_=>
      (have HHJ:Hid (mS size pa=true->nC size a y k++lE size pa pb 0++[pa]=nC size a y k++lE size pa pb 1):=fun h=>by rw[lE,lE,List.append_assoc,List.nil_append];simp[h]);(have HHN:Hid (mS size pa=false->nC size a y k++lE size pa pb 0=nC size a y k++lE size pa pb 1):=fun h=>by rw[lE,lE];simp[h]);have HPX:=jG (show nC size a y k++lE size pa pb 1 <+: nC size a y k++lE size pa pb 2 from gPh _ _ _ _);have HLE:=jG (show (nC size a y k++lE size pa pb 0).length<2 * size+2 from by have:=HLN.out;have:=gDs size pa pb 0 oo;rw[List.length_append];omega);cases hip:mS size pa with
      | true=>
       obtain⟨fn2,tmps2,assign2,body2,hy2,hY2⟩:=HY.out _ pa _ HJJ.out HLE.out;clear hy0
       gi_wp2_with (gi_at_call 98;refine(HPL.out _ pa _).mono ?_;rintro e X ⟨rfl,rfl⟩;rw[hip])
       refine hY2.mono ?_;rintro e W4 (⟨rfl,hJ4,hk4⟩ | ⟨rfl,hJx4⟩)
       ·rw[HHJ.out hip] at hJ4
        have HV4:=jG (HVJ.out.kp hk4);clear hY2 hk4
        gi_wp2
        go_roundw
        case rel=>exact⟨1,oo,by go_num,hJ4,HV4.out⟩
        case measure=>simp[intOf]
       ·exact k92
      | false=>
       have hJ4:=jG (show J (nC size a y k++lE size pa pb 1) _ from HHN.out hip▸HJJ.out);clear hy0
       gi_wp2_with (gi_at_call 98;refine(HPL.out _ pa _).mono ?_;rintro e X ⟨rfl,rfl⟩;rw[hip])
       refine⟨fun _ h=>(by cases h),?_⟩
       gi_wp2
       go_roundw
       case rel=>exact⟨1,oo,by go_num,hJ4.out,HVJ.out⟩
       case measure=>simp[intOf]
     | 1,_=>
      (have HHJ:Hid (mS size pb=true->nC size a y k++lE size pa pb 1++[pb]=nC size a y k++lE size pa pb 2):=fun h=>by rw[lE,lE,List.append_assoc];cases e:mS size pa<;>simp[h,e]);(have HHN:Hid (mS size pb=false->nC size a y k++lE size pa pb 1=nC size a y k++lE size pa pb 2):=fun h=>by rw[lE,lE];cases e:mS size pa<;>simp[h,e]);have HPX:=jG (show nC size a y k++lE size pa pb 2 <+: nC size a y k++lE size pa pb 2 from List.prefix_refl _);have HLE:=jG (show (nC size a y k++lE size pa pb 1).length<2 * size+2 from by have:=HLN.out;have:=gDs size pa pb 1 oo;rw[List.length_append];omega);cases hip:mS size pb with
      | true=>
       obtain⟨fn2,tmps2,assign2,body2,hy2,hY2⟩:=HY.out _ pb _ HJJ.out HLE.out;clear hy0
       gi_wp2_with (gi_at_call 98;refine(HPL.out _ pb _).mono ?_;rintro e X ⟨rfl,rfl⟩;rw[hip])
       refine hY2.mono ?_;rintro e W4 (⟨rfl,hJ4,hk4⟩ | ⟨rfl,hJx4⟩)
       ·rw[HHJ.out hip] at hJ4
        have HV4:=jG (HVJ.out.kp hk4);clear hY2 hk4
        gi_wp2
        go_roundw
        case rel=>exact⟨2,oo,by go_num,hJ4,HV4.out⟩
        case measure=>simp[intOf]
       ·exact k92
      | false=>
       have hJ4:=jG (show J (nC size a y k++lE size pa pb 2) _ from HHN.out hip▸HJJ.out);clear hy0
       gi_wp2_with (gi_at_call 98;refine(HPL.out _ pb _).mono ?_;rintro e X ⟨rfl,rfl⟩;rw[hip])
       refine⟨fun _ h=>(by cases h),?_⟩
       gi_wp2
       go_roundw
       case rel=>exact⟨2,oo,by go_num,hJ4.out,HVJ.out⟩
       case measure=>simp[intOf]
     | 2,_=>
      have HJ2:=jG (HFI.out _ HJJ.out);clear hy0
      gi_wp2
      go_roundw
      case rel=>exact⟨k+1,oo,by go_num,HJ2.out,HVJ.out⟩
      case measure=>simp[intOf];omega
     | j+3,hj=>omega
   ·obtain rfl:k=size:=by omega
    (have hki:¬((k:Int)+1<=(k:Int)):=by omega);clear hy0
    gi_wp2
    go_end0
    exact⟨⟨_,rfl⟩,Or.inl HJS.out⟩
 ·gi_wp2
  refine bodyPost_ret (results_none rfl _ _ _) rfl ?_;exact⟨⟨_,rfl⟩,.inr ⟨_,⟨_,rfl⟩,hJx3⟩⟩
end Go.Proofs.YtjkebndkeamijaaGreatDoor
