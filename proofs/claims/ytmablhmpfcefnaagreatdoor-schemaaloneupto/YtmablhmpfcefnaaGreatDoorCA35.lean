/-
  PROVED HERE: what the texts DAFirstF, DABfs, DAHouseE, DASpecC, DARSpec say.
-/
import Derived.Test.YtmablhmpfcefnaaGreatDoorCA34
import Derived.Test.YtmablhmpfcefnaaGreatDoorCA28
namespace Go.Proofs.YtmablhmpfcefnaaGreatDoor
open Go.RowKit
theorem kidsL_length (l:List Tok) (i:Int) (k f:Nat) (out:List Int):(kidsL l i k f out).length<=out.length+f:=by
 induction f generalizing k out with
 | zero=>rw[kidsL];omega
 | succ f ih=>
  rw[kidsL]
  split
  ·omega
  ·split
   ·have:=ih (k+1) (out++[(k:Int)])
    rw[List.length_append,List.length_singleton] at this
    omega
   ·have:=ih (k+1) out
    omega
theorem kidsL_in (l:List Tok) (i:Int) (n:Nat):∀(f k:Nat) (out:List Int),k+f<=n->(∀p∈out,0<=p/\p<n)->∀p∈kidsL l i k f out,0<=p/\p<n:=by
 intro f
 induction f with
 | zero=>intro k out _ h;rw[kidsL];exact h
 | succ f ih=>
  intro k out hk h
  rw[kidsL]
  split
  ·exact h
  ·refine ih (k+1) _ (by omega) ?_
   split
   ·intro p hp
    rcases List.mem_append.1 hp with hp | hp
    ·exact h p hp
    ·rw[List.mem_singleton] at hp
     subst hp
     omega
   ·exact h
theorem kids_few (l:List Tok) (i:Int):(kids l i).length<=l.length:=by
 unfold kids
 split
 ·exact zzn _
 ·have:=kidsL_length l i (i+1).toNat (l.length - (i+1).toNat) []
  rw[List.length_nil] at this
  omega
theorem kids_in (l:List Tok) (i:Int):∀p∈kids l i,0<=p/\p<l.length:=by
 unfold kids
 split
 ·intro p hp;cases hp
 ·rename_i h
  exact kidsL_in l i l.length _ _ _ (by omega) (fun p hp=>by cases hp)
noncomputable def faultAt (ks:List KindD) (gs:List Grp) (ts:List (DataW Unit)) (l:List Tok) (i:Nat):Int:=faultD ks gs (ts.getD (typeAt l i).toNat emptyT) (specOf ks (typeAt l i).toNat) l i
noncomputable def foldF (ks:List KindD) (gs:List Grp) (ts:List (DataW Unit)) (l:List Tok):Nat->Nat->Int->Int
 | _,0,f=>f
 | i,n+1,f=>if f<=(i:Int) then f else if kindAt l i=1 then foldF ks gs ts l (i+1) n (min f (faultAt ks gs ts l i)) else foldF ks gs ts l (i+1) n f
noncomputable def firstS (ks:List KindD) (gs:List Grp) (ts:List (DataW Unit)) (l:List Tok):Int:=foldF ks gs ts l 0 l.length (faultD ks gs (ts.getD 0 emptyT) (specOf ks 0) l (-1))
theorem getD_at {ts:List (DataW Unit)} {i:Nat} (h:i<ts.length):ts[i]? = some (ts.getD i emptyT):=by
 rw[List.getD_eq_getElem?_getD,zze h]
 rfl
set_option maxRecDepth 100000 in
set_option maxHeartbeats 600000 in
theorem firstfault_calls {B g c ng nc:Nat} {ks:List KindD} {gs:List Grp} {ts:List (DataW Unit)} (w:World) (h:SchAt w B g c ng nc ks gs ts) (h0:0<ks.length) (a:Option Addr) (len cap:Nat) (l:List Tok) (hl:Toks w a len l) (hlie:Lies a len cap) (hsz:len<=2048) (hty:∀(i:Nat) (x:Tok),l[i]? = some x->x.k=1->0<=x.t/\x.t<ks.length) :
  Calls Tryz.prog 29 #[.pointer (some ⟨B,0,none⟩),.slice a len cap] w fun e w' => e=.returned (.int .i64 (firstS ks gs ts l))/\Below w.heap.size w w' := by
 have hll:=hl.1
 have HF0:Hid (Calls Tryz.prog 60 #[.pointer (some ⟨B,0,none⟩),.slice a len cap,.int .i64 (-1)] w fun e w' => e=.returned (.int .i64 (faultD ks gs (ts.getD 0 emptyT) (specOf ks 0) l (-1)))/\Below w.heap.size w w') :=
  faultin_calls w h h0 a len cap l hl hlie hsz (-1) 0 _ (getD_at (by have:=h.len;omega)) (fun X hX=>kindat_out X (h.below hX) h0 _) (by have:=kids_few l (-1);omega) (fun p hp=>by have:=kids_in l (-1) p hp;omega)
 have HFI:Hid (∀(X:World) (i:Nat) (x:Tok),Below w.heap.size w X->l[i]? = some x->x.k=1->Calls Tryz.prog 60 #[.pointer (some ⟨B,0,none⟩),.slice a len cap,.int .i64 (i:Int)] X fun e w' => e=.returned (.int .i64 (faultAt ks gs ts l i))/\Below X.heap.size X w'):=fun X i x hX hx hk=>by
  obtain⟨t0,t1⟩:=hty i x hx hk
  have hta:typeAt l (i:Int)=x.t:=by unfold typeAt;rw[Int.toNat_natCast,hx];rfl
  unfold faultAt
  rw[hta]
  exact faultin_calls X (h.below hX) h0 a len cap l (hl.below hX) hlie hsz (i:Int) x.t.toNat _ (getD_at (by have:=h.len;omega)) (fun Y hY=>kindat_in Y (h.below (hX.trans (hY.mono hX.size))) a len cap l (hl.below (hX.trans (hY.mono hX.size))) hsz i x hx t0 t1) (by have:=kids_few l i;omega) (fun p hp=>by have:=kids_in l i p hp;omega)
 have HL:Hid (∀(X:World) (p:Nat),Below w.heap.size w X->p<len->∃b o y,a=some ⟨b,o,none⟩/\l[p]? = some y/\X.cell? ⟨b,o+p * 4,none⟩=some (.int .i64 y.k)/\X.cell? ⟨b,o+p * 4+1,none⟩=some (.int .i64 y.t)/\X.cell? ⟨b,o+p * 4+2,none⟩=some (.int .i64 y.n)/\X.cell? ⟨b,o+p * 4+3,none⟩=some (.int .i64 y.m)):=fun X p hX hp=>by
  obtain⟨b,o,y,h1,_,h3,h4⟩:=hl.token hp
  obtain⟨d1,d2,d3,d4⟩:=h4 X hX
  exact⟨b,o,y,h1,h3,d1,d2,d3,d4⟩
 unfold firstS
 obtain⟨f0,hf0⟩:∃f0,faultD ks gs (ts.getD 0 emptyT) (specOf ks 0) l (-1)=f0:=⟨_,rfl⟩
 rw[hf0] at HF0 ⊢
 rw[hll]
 have hli:(len:Int)<=2048:=by omega
 clear h hl hlie hty hf0
 go_enter Tryz.func29,Tryz.ntmps29
 go_wp2_with fail
 refine HF0.out.mono ?_
 rintro e W1 ⟨rfl,hB1⟩
 have HB1:=Hid.mk_ hB1
 clear hB1 HF0
 go_wp2
 go_loopg [5,13] (len+1) (fun gk u v wr=>∃(i:Nat) (f:Int),i<=len/\len<i+gk/\u=.int .i64 f/\v=.int .i64 (i:Int)/\foldF ks gs ts l i (len - i) f=foldF ks gs ts l 0 len f0/\Below w.heap.size w wr)
 case atStart=>exact⟨0,f0,zzn _,by omega,rfl,rfl,by rw[Nat.sub_zero],HB1.out⟩
 case round=>
  obtain⟨i,f,hi,hgk,rfl,rfl,hF,hB⟩:=hrel
  clear HB1
  by_cases hlt:i<len
  ·obtain⟨b,o,y,rfl,hy,d1,d2,d3,d4⟩:=HL.out wr i hB hlt
   have hii:(i:Int)<(len:Int):=by omega
   have hi0:(0:Int)<=(i:Int):=by omega
   have hd:decide ((i:Int)<(len:Int))=true:=by simpa using hii
   have hst:len - i=(len - (i+1))+1:=by omega
   rw[hst,foldF,kindAt_some hy] at hF
   obtain⟨V,hV⟩:∃V,V=wr.alloc (.cells #[.int .i64 y.k,.int .i64 y.t,.int .i64 y.n,.int .i64 y.m] 53):=⟨_,rfl⟩
   have hBV:Below w.heap.size w V:=by rw[hV];exact hB.alloc hB.size _
   have m0:V.heap[wr.heap.size]? = some (.cells #[.int .i64 y.k,.int .i64 y.t,.int .i64 y.n,.int .i64 y.m] 53 (0,0)):=by rw[hV];exact World.alloc_heap_new wr _
   have k0:V.cell? ⟨wr.heap.size,0,none⟩=some (.int .i64 y.k):=cell_of_row V wr.heap.size 0 _ _ _ m0
   have HV:Hid (wr.alloc (.cells #[.int .i64 y.k,.int .i64 y.t,.int .i64 y.n,.int .i64 y.m] 53)=V):=hV.symm
   have HBV:=Hid.mk_ hBV
   by_cases dg:f<=(i:Int)
   ·have hdg:decide (f<=(i:Int))=true:=by simpa using dg
    have HE:Hid (foldF ks gs ts l 0 len f0=f):=by rw[if_pos dg] at hF;exact hF.symm
    have HBA:Hid (∀o,Below w.heap.size w (wr.alloc o)):=fun o=>hB.alloc hB.size o
    clear hF hB hBV m0 hV hst hy
    go_wp2
    go_ret
    exact⟨by rw[HE.out];rfl,HBA.out _⟩
   ·have hdg:decide (f<=(i:Int))=false:=by simpa using dg
    rw[if_neg dg] at hF
    by_cases dk:y.k=1
    ·have hdk:(y.k==1)=true:=by simpa using dk
     rw[if_pos dk] at hF
     have HFX:=HFI.out V i y hBV hy dk
     have HFF:=Hid.mk_ hF
     generalize faultAt ks gs ts l i=fa at *
     clear hF hB hBV m0 hV hst hy dk dg
     go_wp2_with fail
     rw[HV.out]
     refine HFX.mono ?_
     rintro e W3 ⟨rfl,hB3⟩
     have HB3:=Hid.mk_ (HBV.out.trans (hB3.mono HBV.out.size))
     clear hB3 HFX
     go_wp2
     go_roundg (len - i)
     case measure=>omega
     case rel=>exact⟨i+1,min f fa,by omega,by omega,by first | rfl | (congr 1;omega),by first | rfl | go_num,HFF.out,HB3.out⟩
    ·have hdk:(y.k==1)=false:=by simpa using dk
     rw[if_neg dk] at hF
     have HFF:=Hid.mk_ hF
     have HBA:Hid (∀o,Below w.heap.size w (wr.alloc o)):=fun o=>hB.alloc hB.size o
     clear hF hB hBV m0 hV hst hy dk dg
     go_wp2
     go_roundg (len - i)
     case measure=>omega
     case rel=>exact⟨i+1,f,by omega,by omega,rfl,by first | rfl | go_num,HFF.out,HBA.out _⟩
  ·obtain rfl:i=len:=by omega
   have hd:decide ((i:Int)<(i:Int))=false:=by simp
   have HE:Hid (foldF ks gs ts l 0 i f0=f/\Below w.heap.size w wr):=by
    rw[Nat.sub_self,foldF] at hF
    exact⟨hF.symm,hB⟩
   clear hF hB
   go_wp2
   go_ret
   exact⟨by rw[HE.out.1];rfl,HE.out.2⟩
noncomputable def checkS (ks:List KindD) (gs:List Grp) (ts:List (DataW Unit)) (l:List Tok):Int×Int :=
 if (check l).2≠0 then check l else if firstS ks gs ts l≠2049 then (firstS ks gs ts l,9) else ((l.length:Int),0)
set_option maxRecDepth 100000 in
set_option maxHeartbeats 600000 in
theorem scheck_calls {B g c ng nc:Nat} {ks:List KindD} {gs:List Grp} {ts:List (DataW Unit)} (w:World) (h:SchAt w B g c ng nc ks gs ts) (h0:0<ks.length) (a:Option Addr) (len cap:Nat) (l:List Tok) (hl:Toks w a len l) (hlie:Lies a len cap) (hsz:len<=4398046511104) (hty:(check l).2=0->∀(i:Nat) (x:Tok),l[i]? = some x->x.k=1->0<=x.t/\x.t<ks.length) :
  Calls Tryz.prog 10 #[.pointer (some ⟨B,0,none⟩),.slice a len cap] w fun e w' => e=.returned (.tuple #[.int .i64 (checkS ks gs ts l).1,.int .i64 (checkS ks gs ts l).2])/\Below w.heap.size w w' := by
 have HM:=Hid.mk_ (ismade_calls w h h0)
 have HC:Hid (Calls Tryz.prog 28 #[.slice a len cap] w fun e w' => e=.returned (.tuple #[.int .i64 (check l).1,.int .i64 (check l).2])/\Below w.heap.size w w'):=fcheck_calls a len cap l w hl hsz
 have hll:=hl.1
 obtain⟨ca,cb,hc⟩:∃ca cb,check l=(ca,cb):=⟨_,_,rfl⟩
 have HFF:Hid (cb=0->∀X,Below w.heap.size w X->Calls Tryz.prog 29 #[.pointer (some ⟨B,0,none⟩),.slice a len cap] X fun e w' => e=.returned (.int .i64 (firstS ks gs ts l))/\Below X.heap.size X w'):=fun hz X hX=>by
  have hc2:(check l).2=0:=by rw[hc];exact hz
  have h20:=((check_ok l).1 hc2).1
  exact firstfault_calls X (h.below hX) h0 a len cap l (hl.below hX) hlie (by omega) (hty hc2)
 unfold checkS
 rw[hc] at HC ⊢
 dsimp only at HC ⊢
 generalize firstS ks gs ts l=ff at *
 rw[hll]
 have hli:(len:Int)<=4398046511104:=by omega
 clear h hl hlie hty hc hll
 by_cases d0:cb≠0
 ·rw[if_pos d0]
  have e0:(cb==0)=false:=by simpa using d0
  have e1:(cb != 0)=true:=by simp[bne,e0]
  clear HFF
  go_enter Tryz.func10,Tryz.ntmps10
  go_wp2_with fail
  refine HM.out.mono ?_
  rintro e W ⟨rfl,rfl⟩
  go_wp2_with fail
  refine HC.out.mono ?_
  rintro e W1 ⟨rfl,hB1⟩
  have HB1:=Hid.mk_ hB1
  clear hB1 HC HM
  go_wp2
  go_ret2
  exact⟨rfl,HB1.out⟩
 ·rw[if_neg d0]
  have d0:cb=0:=Classical.not_not.1 d0
  subst d0
  have e1:((0:Int) != 0)=false:=rfl
  have HF:=Hid.mk_ (HFF.out rfl)
  clear HFF
  by_cases d1:ff≠2049
  ·rw[if_pos d1]
   have e2:(ff==2049)=false:=by simpa using d1
   have e3:(ff != 2049)=true:=by simp[bne,e2]
   go_enter Tryz.func10,Tryz.ntmps10
   go_wp2_with fail
   refine HM.out.mono ?_
   rintro e W ⟨rfl,rfl⟩
   go_wp2_with fail
   refine HC.out.mono ?_
   rintro e W1 ⟨rfl,hB1⟩
   have HB1:=Hid.mk_ hB1
   have HF1:=HF.out W1 hB1
   clear hB1 HC HM HF
   go_wp2_with fail
   refine HF1.mono ?_
   rintro e W2 ⟨rfl,hB2⟩
   have HB2:=Hid.mk_ (HB1.out.trans (hB2.mono HB1.out.size))
   clear hB2 HF1
   go_wp2
   go_ret2
   exact⟨rfl,HB2.out⟩
  ·rw[if_neg d1]
   have d1:ff=2049:=Classical.not_not.1 d1
   subst d1
   have e3:((2049:Int) != 2049)=false:=rfl
   go_enter Tryz.func10,Tryz.ntmps10
   go_wp2_with fail
   refine HM.out.mono ?_
   rintro e W ⟨rfl,rfl⟩
   go_wp2_with fail
   refine HC.out.mono ?_
   rintro e W1 ⟨rfl,hB1⟩
   have HB1:=Hid.mk_ hB1
   have HF1:=HF.out W1 hB1
   clear hB1 HC HM HF
   go_wp2_with fail
   refine HF1.mono ?_
   rintro e W2 ⟨rfl,hB2⟩
   have HB2:=Hid.mk_ (HB1.out.trans (hB2.mono HB1.out.size))
   clear hB2 HF1
   go_wp2
   go_ret2
   exact⟨rfl,HB2.out⟩
end Go.Proofs.YtmablhmpfcefnaaGreatDoor
namespace Go.Proofs.YtmablhmpfcefnaaGreatDoor
noncomputable def code (P:Nat->Prop):List Nat->Nat
 | []=>0
 | q::l=>(open Classical in if P q then 1 else 0)+2 * code P l
end Go.Proofs.YtmablhmpfcefnaaGreatDoor
namespace Go.Proofs.YtmablhmpfcefnaaGreatDoor
open Go.RowKit
theorem pow_ones {P:Int->Prop}:∀(m:Nat) (w:List Int),LPow (fun v=>∃a,v=[a]/\P a) m w↔(w.length=m/\∀a∈w,P a):=by
 intro m
 induction m with
 | zero=>
  intro w
  rw[LPow]
  constructor
  ·rintro rfl
   exact⟨rfl,fun a h=>by cases h⟩
  ·exact fun h=>List.length_eq_zero_iff.1 h.1
 | succ m ih=>
  intro w
  rw[LPow]
  constructor
  ·rintro⟨u,v,rfl,⟨a,rfl,ha⟩,hv⟩
   obtain⟨h1,h2⟩:=(ih v).1 hv
   refine⟨by rw[List.length_append,List.length_singleton];omega,fun b hb=>?_⟩
   rcases List.mem_append.1 hb with hb | hb
   ·rw[List.mem_singleton] at hb;subst hb;exact ha
   ·exact h2 b hb
  ·rintro⟨h1,h2⟩
   cases w with
   | nil=>cases h1
   | cons a r=>
    exact⟨[a],r,rfl,⟨a,rfl,h2 a (zzg ..)⟩,(ih r).2 ⟨by rw[List.length_cons] at h1;omega,fun b hb=>h2 b (zzk _ hb)⟩⟩
theorem lang_inner (gs:List Grp) (nm:ByteArray):(fun v=>∃x∈[node 1 nm []],Lang kindT (fun t=>maskG gs (nameT t)) subs 199 x v)=fun v=>∃a,v=[a]/\takes (maskG gs nm) a=true:=by
 funext v
 refine propext ⟨?_,?_⟩
 ·rintro⟨x,hx,h⟩
  rw[List.mem_singleton] at hx
  subst hx
  rw[Lang,if_pos (show kindT (node 1 nm [])=1 from rfl)] at h
  exact h
 ·intro h
  refine⟨_,List.mem_singleton.2 rfl,?_⟩
  rw[Lang,if_pos (show kindT (node 1 nm [])=1 from rfl)]
  exact h
theorem lang_plusN (gs:List Grp) (s nm:ByteArray) (w:List Int):LangD gs 200 (node 5 s [node 1 nm []]) w↔(w≠[]/\∀a∈w,takes (maskG gs nm) a=true):=by
 have e:LangD gs 200 (node 5 s [node 1 nm []]) w↔∃m,LPow (fun v=>∃x∈[node 1 nm []],Lang kindT (fun t=>maskG gs (nameT t)) subs 199 x v) (m+1) w:=by
  unfold LangD
  rw[Lang,if_neg (show ¬kindT (node 5 s [node 1 nm []])=1 by rw[kindT_node];decide),if_neg (show ¬kindT (node 5 s [node 1 nm []])=2 by rw[kindT_node];decide),if_neg (show ¬kindT (node 5 s [node 1 nm []])=3 by rw[kindT_node];decide),if_neg (show ¬kindT (node 5 s [node 1 nm []])=4 by rw[kindT_node];decide),if_pos (show kindT (node 5 s [node 1 nm []])=5 from rfl)]
  exact Iff.rfl
 rw[e,lang_inner]
 constructor
 ·rintro⟨m,h⟩
  obtain⟨h1,h2⟩:=(pow_ones _ _).1 h
  exact⟨fun e=>(by rw[e] at h1;cases h1),h2⟩
 ·rintro⟨h1,h2⟩
  refine⟨w.length - 1,(pow_ones _ _).2 ⟨?_,h2⟩⟩
  have:w.length≠0:=fun e=>h1 (List.length_eq_zero_iff.1 e)
  omega
theorem lang_starN (gs:List Grp) (s nm:ByteArray) (w:List Int):LangD gs 200 (node 4 s [node 1 nm []]) w↔∀a∈w,takes (maskG gs nm) a=true:=by
 have e:LangD gs 200 (node 4 s [node 1 nm []]) w↔∃m,LPow (fun v=>∃x∈[node 1 nm []],Lang kindT (fun t=>maskG gs (nameT t)) subs 199 x v) m w:=by
  unfold LangD
  rw[Lang,if_neg (show ¬kindT (node 4 s [node 1 nm []])=1 by rw[kindT_node];decide),if_neg (show ¬kindT (node 4 s [node 1 nm []])=2 by rw[kindT_node];decide),if_neg (show ¬kindT (node 4 s [node 1 nm []])=3 by rw[kindT_node];decide),if_pos (show kindT (node 4 s [node 1 nm []])=4 from rfl)]
  exact Iff.rfl
 rw[e,lang_inner]
 constructor
 ·rintro⟨m,h⟩
  exact((pow_ones _ _).1 h).2
 ·intro h
  exact⟨w.length,(pow_ones _ _).2 ⟨rfl,h⟩⟩
def gsH:List Grp:=namesD houseL houseG
def blockB:ByteArray:=⟨#[98,108,111,99,107]⟩
theorem tree_block:outTree houseW=node 5 ⟨#[]⟩ [node 1 blockB []]:=by kernel_rfl
theorem tree_text:outTree textS=node 4 ⟨#[]⟩ [node 1 textB []]:=by kernel_rfl
theorem mask_block:maskG gsH blockB=190:=by kernel_rfl
theorem mask_text:maskG gsH textB=1:=by kernel_rfl
theorem words_block (w:List Int):LangD gsH 200 (outTree houseW) w↔(w≠[]/\∀a∈w,takes 190 a=true):=by rw[tree_block,lang_plusN,mask_block]
theorem words_text (w:List Int):LangD gsH 200 (outTree textS) w↔∀a∈w,takes 1 a=true:=by rw[tree_text,lang_starN,mask_text]
theorem house_kinds {w:World} {B:Nat} (h:MadeS w B houseW houseL houseG):∃g c ng nc ks,SchAt w B g c ng nc ks gsH (treesOf houseW houseL)/\ks.length=8/\∀i,specOf ks i=((zeroS::houseL)[i]?).getD zeroS:=by
 obtain⟨g,c,ng,nc,ks,h1,h2⟩:=h
 refine⟨g,c,ng,nc,ks,h1,?_,fun i=>?_⟩
 ·have:=congrArg List.length h2
  rw[List.length_map] at this
  exact this
 ·unfold specOf
  rw[<-List.getElem?_map,h2]
theorem pre_of {n:Nat} {t:DataW Unit} {gs:List Grp} (h:chk n t gs=0) {w v:List Int} (hl:LangD gs n t (w++v)):PreD gs n t w:=pre_less ⟨0,(after_lang h _).2 hl⟩
theorem long_nil {gs:List Grp} {t:DataW Unit} (h:PreD gs 200 t []):LongD gs 200 t [] 0:=⟨zzb _,h,fun h=>absurd h (Nat.not_lt_zero _)⟩
def openP:Tok:=⟨1,1,0,0⟩
def closeT:Tok:=⟨2,0,0,0⟩
theorem wordF_lang {gs:List Grp} {t:DataW Unit} {l:List Tok} {i:Int} {ps:List Int} (h:LangD gs 200 t (wordD l ps)):wordF gs t l i ps=2049:=by
 unfold wordF
 rw[if_pos h]
theorem faultD_fit {ks:List KindD} {gs:List Grp} {t:DataW Unit} {s:SpecD} {l:List Tok} {i:Int} (hf:∀p∈kids l i,fitsB ks s ((l[p.toNat]?).getD ⟨0,0,0,0⟩)=true):faultD ks gs t s l i=wordF gs t l i (kids l i):=by
 unfold faultD
 have key:∀(f j:Nat),j+f=(kids l i).length->faultK ks gs t s l i (kids l i) j f=wordF gs t l i (kids l i):=by
  intro f
  induction f with
  | zero=>intro j _;rw[faultK]
  | succ f ih=>
   intro j hj
   have hm:(kids l i).getD j 0∈kids l i:=by
    rw[List.getD_eq_getElem?_getD,zze (show j<(kids l i).length by omega)]
    exact List.getElem_mem _
   rw[faultK,if_pos (hf _ hm)]
   exact ih (j+1) (by omega)
 exact key _ 0 (by omega)
theorem check_pp:check [openP,closeT]=(2,0):=by decide
theorem check_nil:check []=(0,0):=by decide
theorem check_para {ks:List KindD} (h8:ks.length=8) (hs:∀i,specOf ks i=((zeroS::houseL)[i]?).getD zeroS):checkS ks gsH (treesOf houseW houseL) [openP,closeT]=(2,0):=by
 have k1:kids [openP,closeT] (-1)=[0]:=by decide
 have k2:kids [openP,closeT] 0=[]:=by decide
 have f1:faultD ks gsH ((treesOf houseW houseL).getD 0 emptyT) (specOf ks 0) [openP,closeT] (-1)=2049:=by
  rw[faultD_fit,k1]
  ·exact wordF_lang ((words_block _).2 ⟨by decide,by decide⟩)
  ·intro p hp
   rw[k1,List.mem_singleton] at hp
   subst hp
   show fitsB ks (specOf ks 0) openP=true
   unfold fitsB
   rw[if_neg (by decide),if_pos (by rw[h8];decide),hs]
   decide
 have f2:faultAt ks gsH (treesOf houseW houseL) [openP,closeT] 0=2049:=by
  unfold faultAt
  have ht:typeAt [openP,closeT] ((0:Nat):Int)=1:=by decide
  rw[ht,faultD_fit]
  ·show wordF gsH (outTree textS) [openP,closeT] 0 (kids [openP,closeT] 0)=2049
   rw[k2]
   exact wordF_lang ((words_text _).2 (fun a ha=>by cases ha))
  ·intro p hp
   have:kids [openP,closeT] ((0:Nat):Int)=[]:=k2
   rw[this] at hp
   cases hp
 have ff:firstS ks gsH (treesOf houseW houseL) [openP,closeT]=2049:=by
  unfold firstS
  rw[f1]
  show foldF ks gsH (treesOf houseW houseL) [openP,closeT] 0 2 2049=2049
  rw[foldF,if_neg (by decide),if_pos (by decide),f2,foldF,if_neg (by decide),if_neg (by decide),foldF]
  decide
 unfold checkS
 rw[check_pp,if_neg (by decide),ff,if_neg (by decide)]
 rfl
theorem check_none {ks:List KindD} (hck:chk 200 (outTree houseW) gsH=0):checkS ks gsH (treesOf houseW houseL) []=(0,9):=by
 have k1:kids [] (-1)=[]:=by decide
 have hpre:PreD gsH 200 (outTree houseW) []:=pre_of (v:=[1]) hck ((words_block _).2 ⟨by decide,by decide⟩)
 have f1:faultD ks gsH ((treesOf houseW houseL).getD 0 emptyT) (specOf ks 0) [] (-1)=0:=by
  rw[faultD_fit,k1]
  ·show wordF gsH (outTree houseW) [] (-1) []=0
   unfold wordF
   rw[show wordD [] []=([]:List Int) from rfl,if_neg (fun h=>((words_block _).1 h).1 rfl),begN_eq (long_nil hpre),if_neg (by decide),if_pos rfl]
   rfl
  ·intro p hp
   rw[k1] at hp
   cases hp
 have ff:firstS ks gsH (treesOf houseW houseL) []=0:=by
  unfold firstS
  rw[f1]
  rfl
 unfold checkS
 rw[check_nil,if_neg (by decide),ff,if_pos (by decide)]
theorem sizeSpec:(Tryz.prog.info? 34).map (·.size)=some 7:=by kernel_rfl
theorem ones7 (n e:ByteArray) (f:Bool) (m l k:Int) (b:Bool):(#[Value.string n,.string e,.bool f,.int .i64 m,.int .i64 l,.int .i64 k,.bool b]:Array Value).all (·.oneCell')=true:=by
 rw[Array.all_eq_true_iff_forall_mem]
 intro v hv
 simp at hv
 rcases hv with rfl | rfl | rfl | rfl | rfl | rfl | rfl<;>rfl
def specL (l:List SpecD) (t:Int):SpecD:=if 1<=t/\t<=l.length then (l[(t - 1).toNat]?).getD zeroS else zeroS
set_option maxRecDepth 100000 in
set_option maxHeartbeats 800000 in
theorem rspec_calls {B:Nat} {whole:ByteArray} {a:Option Addr} {len cap:Nat} {l:List SpecD} {gs:List Grp} (w:World) (h:RSch w B whole a len cap l gs) (t:Int) :
  Calls Tryz.prog 19 #[.pointer (some ⟨B,0,none⟩),.int .i64 t] w fun e w' => e=.returned (.tuple #[specV (specL l t),.bool (decide (1<=t/\t<=(len:Int)))])/\Below w.heap.size w w' := by
 obtain⟨V,hV⟩:∃V,V=w.alloc (.cells #[.string ⟨#[]⟩,.string ⟨#[]⟩,.bool false,.int .i64 0,.int .i64 0,.int .i64 0,.bool false] 34):=⟨_,rfl⟩
 have hBV:Below w.heap.size w V:=by rw[hV];exact(zzd _ w).alloc (zzb _) _
 have HZ:Hid (V.heap[w.heap.size]? = some (.cells #[.string ⟨#[]⟩,.string ⟨#[]⟩,.bool false,.int .i64 0,.int .i64 0,.int .i64 0,.bool false] 34 (0,0))):=by rw[hV];exact World.alloc_heap_new w _
 have HF:Hid (∀cs,Below w.heap.size w (V.setRow w.heap.size cs)):=fun cs=>below_setRow hBV (zzb _) cs
 obtain⟨tr,ea,ec,ng,nc,h1,_,h3,_,_,_,h15⟩:=h
 have hm:=(hBV.block _ (zza.1 h1).1).trans h1
 have cL:V.cell? ⟨B,3,none⟩=some (.slice a len cap):=cell_of_row V B 3 _ _ _ hm
 have hl3:=h3.below hBV
 have hll:=h3.1
 have hli:(len:Int)<=15:=by omega
 unfold specL
 rw[hll]
 rw[hV] at cL
 by_cases p0:t<1
 ·have hd:decide (t<1)=true:=by simpa using p0
  rw[if_neg (by omega),show decide (1<=t/\t<=(len:Int))=false by simp;omega]
  unfold specV zeroS
  dsimp only at *
  have HV:=Hid.mk_ hV
  clear h1 h3 hm hl3 hll hV hBV
  go_enter Tryz.func19,Tryz.ntmps19
  go_wp2_with (first | (rw[<-HV.out];refine wpList_store_row rfl 34 _ _ rfl w.heap.size #[.string ⟨#[]⟩,.string ⟨#[]⟩,.bool false,.int .i64 0,.int .i64 0,.int .i64 0,.bool false] rfl rfl 34 _ HZ.out sizeSpec rfl (ones7 _ _ _ _ _ _ _) ?_) | fail)
  refine bodyPost_ret (results_row_tmp rfl _ _ w.heap.size 34 #[.string ⟨#[]⟩,.string ⟨#[]⟩,.bool false,.int .i64 0,.int .i64 0,.int .i64 0,.bool false] (0,0) _ rfl (setRow_heap _ _ _ _ _ _ HZ.out) Tryz.underlying34 rfl sizeSpec) rfl ?_
  exact⟨rfl,HF.out _⟩
 have hd0:decide (t<1)=false:=by simpa using p0
 by_cases p1:(len:Int)<t
 ·have hd:decide ((len:Int)<t)=true:=by simpa using p1
  rw[if_neg (by omega),show decide (1<=t/\t<=(len:Int))=false by simp;omega]
  unfold specV zeroS
  dsimp only at *
  have HV:=Hid.mk_ hV
  clear h1 h3 hm hl3 hll hV hBV
  go_enter Tryz.func19,Tryz.ntmps19
  go_wp2_with (first | (rw[<-HV.out];refine wpList_store_row rfl 34 _ _ rfl w.heap.size #[.string ⟨#[]⟩,.string ⟨#[]⟩,.bool false,.int .i64 0,.int .i64 0,.int .i64 0,.bool false] rfl rfl 34 _ HZ.out sizeSpec rfl (ones7 _ _ _ _ _ _ _) ?_) | fail)
  refine bodyPost_ret (results_row_tmp rfl _ _ w.heap.size 34 #[.string ⟨#[]⟩,.string ⟨#[]⟩,.bool false,.int .i64 0,.int .i64 0,.int .i64 0,.bool false] (0,0) _ rfl (setRow_heap _ _ _ _ _ _ HZ.out) Tryz.underlying34 rfl sizeSpec) rfl ?_
  exact⟨rfl,HF.out _⟩
 have hd1:decide ((len:Int)<t)=false:=by simpa using p1
 obtain⟨n,rfl⟩:∃n:Nat,t=(n:Int)+1:=⟨(t - 1).toNat,by omega⟩
 rw[if_pos (by omega),show decide (1<=(n:Int)+1/\(n:Int)+1<=(len:Int))=true by simp;omega,show ((n:Int)+1 - 1).toNat=n by omega]
 obtain⟨b,o,x,rfl,_,hx,hsp⟩:=hl3.at (i:=n) (by omega)
 obtain⟨s0,s1,s2,s3,s4,s5,s6⟩:=hsp V (zzd _ _)
 rw[hx]
 obtain⟨xn,xe,xf,xm,xl,xk,xb⟩:=x
 have hn0:(0:Int)<=(n:Int):=by omega
 have hnl:(n:Int)<(len:Int):=by omega
 have hns:(n:Int)+1 - 1=(n:Int):=by omega
 rw[hV] at s0 s1 s2 s3 s4 s5 s6
 unfold specV
 dsimp only[Option.getD_some] at *
 have HV:=Hid.mk_ hV
 clear h1 h3 hm hl3 hll hV hBV hx hsp
 go_enter Tryz.func19,Tryz.ntmps19
 go_wp2_with (first | (rw[<-HV.out];refine wpList_store_row rfl 34 _ _ rfl w.heap.size #[.string xn,.string xe,.bool xf,.int .i64 xm,.int .i64 xl,.int .i64 xk,.bool xb] rfl rfl 34 _ HZ.out sizeSpec rfl (ones7 _ _ _ _ _ _ _) ?_) | fail)
 refine bodyPost_ret (results_row_tmp rfl _ _ w.heap.size 34 #[.string xn,.string xe,.bool xf,.int .i64 xm,.int .i64 xl,.int .i64 xk,.bool xb] (0,0) _ rfl (setRow_heap _ _ _ _ _ _ HZ.out) Tryz.underlying34 rfl sizeSpec) rfl ?_
 exact⟨rfl,HF.out _⟩
end Go.Proofs.YtmablhmpfcefnaaGreatDoor
