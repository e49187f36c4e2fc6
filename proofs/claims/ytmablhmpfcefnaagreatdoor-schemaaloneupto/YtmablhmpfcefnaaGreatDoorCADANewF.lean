/-
  PROVED HERE: schema.New at every expression, types and groups: what it returns, and the schema as it lies in memory.
-/
import Derived.Test.YtmablhmpfcefnaaGreatDoorCA26
namespace Go.Proofs.YtmablhmpfcefnaaGreatDoor
open Go.RowKit
noncomputable def newE (whole:ByteArray) (l:List SpecD) (gs:List Grp):Int :=
 open Classical in
 if 15<l.length\/16<gs.length then 1
 else if l.all okS=true/\RightN (namesD l gs) then firstE (whole::l.map (·.expr)) (namesD l gs)
 else 1
structure SchAt (w:World) (B g c ng nc:Nat) (ks:List KindD) (gs:List Grp) (ts:List (DataW Unit)):Prop where
 sch:w.heap[B]? = some (.cells #[.slice (some ⟨g,0,none⟩) ks.length c,.slice (some ⟨ng,0,none⟩) gs.length nc] 81 (0,0))
 glt:g<w.heap.size
 kinds:∀(i:Nat) (x:KindD),ks[i]? = some x->SpecAt w g (i * 10) x.1/\w.cell? ⟨g,i * 10+7,none⟩=some (.int .i64 x.2.1)/\w.cell? ⟨g,i * 10+8,none⟩=some (.string x.2.2.1)/\w.cell? ⟨g,i * 10+9,none⟩=some (.slice x.2.2.2.1 x.2.2.2.2.1 x.2.2.2.2.2)
 names:Groups w (some ⟨ng,0,none⟩) gs.length gs
 len:ts.length=ks.length
 cap:ks.length<=c/\c<=9223372036854775807/\ks.length<=16
 trees:∀(i:Nat) (x:KindD) (t:DataW Unit),ks[i]? = some x->ts[i]? = some t->Ex w 200 t (rawV x.2)/\named 200 t/\chk 200 t gs=0
theorem SchAt.below {w w' : World} {B g c ng nc:Nat} {ks:List KindD} {gs:List Grp} {ts:List (DataW Unit)} (h:SchAt w B g c ng nc ks gs ts) (hB:Below w.heap.size w w'):SchAt w' B g c ng nc ks gs ts:=by
 have e:∀k,w'.cell? ⟨g,k,none⟩=w.cell? ⟨g,k,none⟩:=fun k=>zzi (hB.block g h.glt)
 refine⟨(hB.block B (zza.1 h.sch).1).trans h.sch,zzl h.glt hB.size,fun i x hx=>?_,h.names.below hB,h.len,h.cap,fun i x t hx ht=>?_⟩
 ·obtain⟨h1,h2,h3,h4⟩:=h.kinds i x hx
  exact⟨h1.same (hB.block g h.glt),by rw[e];exact h2,by rw[e];exact h3,by rw[e];exact h4⟩
 ·obtain⟨h1,h2,h3⟩:=h.trees i x t hx ht
  exact⟨Ex.below hB _ _ _ h1,h2,h3⟩
def treesOf (whole:ByteArray) (l:List SpecD):List (DataW Unit):=(whole::l.map (·.expr)).map outTree
def MadeS (w:World) (B:Nat) (whole:ByteArray) (l:List SpecD) (gs:List Grp):Prop:=∃g c ng nc ks,SchAt w B g c ng nc ks (namesD l gs) (treesOf whole l)/\ks.map (·.1)=zeroS::l
theorem MadeS.below {w w' : World} {B:Nat} {whole:ByteArray} {l:List SpecD} {gs:List Grp} (h:MadeS w B whole l gs) (hB:Below w.heap.size w w'):MadeS w' B whole l gs:=by
 obtain⟨g,c,ng,nc,ks,h1,h2⟩:=h
 exact⟨g,c,ng,nc,ks,h1.below hB,h2⟩
theorem readE_zero {s:ByteArray} {gs:List Grp} (h:readE s gs=0):chk 200 (outTree s) gs=0:=by
 unfold readE at h
 split at h
 ·rename_i h1
  exact absurd h h1
 ·exact h
theorem RdI.made {base:Nat} {w0:World} {B g c ng nc:Nat} {xs:List GrpD} {whole:ByteArray} {l:List SpecD} {gs:List Grp} {wr:World} {ks:List KindD} (h:RdI base w0 B g c ng nc xs (whole::l.map (·.expr)) (zeroS::l) wr ks ks.length) (hn:xs.map plainG=namesD l gs) (hl:l.length<=15) (hxl:xs.length<=1000):MadeS wr B whole l gs:=by
 have hkl:ks.length=l.length+1:=by have:=congrArg List.length h.spec;rw[List.length_map,List.length_cons] at this;exact this
 have hnl:(namesD l gs).length=xs.length:=by rw[<-hn,List.length_map]
 obtain⟨hgl,_⟩:=owns_lt h.row (g:=g) rfl
 have hcap:ks.length<=c/\c<=maxLen:=by
  rcases h.row.2 with ⟨e,_⟩ | ⟨g', cap,cur,e,_,_,h1,h2,_⟩
  ·cases e
  ·injection e with _ _ e3
   subst e3
   exact⟨h1,h2⟩
 refine⟨g,c,ng,nc,ks,⟨by rw[hnl];exact h.sch,hgl,fun i x hx=>?_,by rw[hnl,<-hn];exact h.nms.groups rfl (by omega),by unfold treesOf;simp;omega,⟨hcap.1,by have:=hcap.2;unfold maxLen at this;omega,by omega⟩,fun i x t hx ht=>?_⟩,h.spec⟩
 ·obtain⟨g', cap', e,hc⟩:=owns_cell h.row (by omega)
  injection e with e1
  injection e1 with e1
  injection e1 with e1
  subst e1
  exact⟨(kinds_at h.row).2 i x hx,hc _ _ (flatK_at (j:=7) hx rfl),hc _ _ (flatK_at (j:=8) hx rfl),hc _ _ (flatK_at (j:=9) hx rfl)⟩
 ·unfold treesOf at ht
  rw[List.getElem?_map] at ht
  cases hs:(whole::l.map (·.expr))[i]? with
  | none=>rw[hs] at ht;cases ht
  | some s=>
   rw[hs] at ht
   cases ht
   have hi:i<ks.length:=(zzc.1 hx).1
   refine⟨ExA.ex _ _ _ (h.tree i x s hi hx hs),out_named s,?_⟩
   have:=readE_zero (h.zero i s hi hs)
   rw[hn] at this
   exact this
theorem Nms.base {b b' : Nat} {W:World} {v:Value} {xs:List GrpD} (h:Nms b W v xs) (hb:b' <= b):Nms b' W v xs:=by
 refine⟨⟨h.row.1,?_⟩,h.ok⟩
 rcases h.row.2 with h2 | ⟨g,cap,cur,h1,h2,h3⟩
 ·exact .inl h2
 ·exact .inr ⟨g,cap,cur,h1,Nat.le_trans hb h2,h3⟩
theorem bare_expr (l:List SpecD) (whole:ByteArray):∀(j:Nat) (x:KindD),1<=j->(bareK zeroS::l.map bareK)[j]? = some x->(whole::l.map (·.expr))[j]? = some x.1.expr:=by
 intro j x hj hx
 obtain⟨k,rfl⟩:∃k,j=k+1:=⟨j - 1,by omega⟩
 rw[List.getElem?_cons_succ,List.getElem?_map] at hx ⊢
 cases hq:l[k]? with
 | none=>rw[hq] at hx;cases hx
 | some y=>
  rw[hq] at hx
  cases hx
  rfl
theorem all_bare (l:List SpecD):(((bareK zeroS::l.map bareK).drop 1).all fun x=>okS x.1)=l.all okS:=by
 rw[List.drop_succ_cons,List.drop_zero,List.all_map]
 rfl
set_option maxRecDepth 100000 in
set_option maxHeartbeats 800000 in
theorem new_calls (whole:ByteArray) (a:Option Addr) (len cap:Nat) (l:List SpecD) (ga:Option Addr) (gl gc:Nat) (gs:List Grp) (w:World) (hw:whole.size<=9223372036854775807) (hl:Specs w a len l) (hG:Groups w ga gl gs) (hls:∀x∈l,x.name.size<=9223372036854775807/\x.expr.size<=9223372036854775807) (hgs:∀x∈gs,x.1.size<=9223372036854775807/\x.2.length<=1500000) (hE:ETy w) :
  Calls Tryz.prog 16 #[.string whole,.slice a len cap,.slice ga gl gc] w fun e w' => Below w.heap.size w w' /\ ((newE whole l gs≠0/\e=.returned (.tuple #[.pointer none,.int .i64 (newE whole l gs)]))\/(newE whole l gs=0/\∃B,e=.returned (.tuple #[.pointer (some ⟨B,0,none⟩),.int .i64 0])/\MadeS w' B whole l gs)):=by
 have hll:=hl.1
 have hgl:=hG.1
 have hl63:=hl.2.1
 have hg63:=hG.2.1
 have hli:(len:Int)<=9223372036854775807:=by omega
 have hgi:(gl:Int)<=9223372036854775807:=by omega
 by_cases h1:15<len
 ·have HN:Hid (newE whole l gs=1):=by
   show newE whole l gs=1
   unfold newE
   rw[if_pos (.inl (by omega))]
  have hd:decide ((15:Int)<(len:Int))=true:=by simp;omega
  have HR:Hid (Below w.heap.size w w):=zzd _ _
  clear hl hG hls hgs hE
  go_enter Tryz.func16,Tryz.ntmps16
  go_wp2
  go_ret2
  exact⟨HR.out,.inl ⟨by rw[HN.out];decide,by rw[HN.out];rfl⟩⟩
 have hd1:decide ((15:Int)<(len:Int))=false:=by simp;omega
 by_cases h2:16<gl
 ·have HN:Hid (newE whole l gs=1):=by
   show newE whole l gs=1
   unfold newE
   rw[if_pos (.inr (by omega))]
  have hd:decide ((16:Int)<(gl:Int))=true:=by simp;omega
  have HR:Hid (Below w.heap.size w w):=zzd _ _
  clear hl hG hls hgs hE
  go_enter Tryz.func16,Tryz.ntmps16
  go_wp2
  go_ret2
  exact⟨HR.out,.inl ⟨by rw[HN.out];decide,by rw[HN.out];rfl⟩⟩
 have hd2:decide ((16:Int)<(gl:Int))=false:=by simp;omega
 have hnE:newE whole l gs=(open Classical in if l.all okS=true/\RightN (namesD l gs) then firstE (whole::l.map (·.expr)) (namesD l gs) else 1):=by
  unfold newE
  rw[if_neg (by omega)]
 have HKO:=Hid.mk_ (kindsof_calls a len cap l w hl (by omega))
 have HNO:Hid (∀X,Below w.heap.size w X->Calls Tryz.prog 46 #[.slice a len cap,.slice ga gl gc] X fun e w' => ∃(g c:Nat) (xs:List GrpD),e=.returned (.slice (some ⟨g,0,none⟩) xs.length c)/\Nms X.heap.size w' (.slice (some ⟨g,0,none⟩) xs.length c) xs/\xs.map plainG=namesD l gs/\Below X.heap.size X w'):=fun X hX=>namesof_calls a len cap l ga gl gc gs X (hl.below hX) (hG.below hX) (by omega) (by omega) (fun x hx=>(hgs x hx).2)
 have hsz:∀x∈namesD l gs,x.1.size<=9223372036854775807:=by
  intro x hx
  unfold namesD at hx
  rcases List.mem_cons.1 hx with rfl | hx
  ·decide
  ·rcases List.mem_append.1 hx with hx | hx
   ·have:∀(l:List SpecD) (i:Nat) (x:Grp),x∈specNames i l->∃s∈l,x.1=s.name:=by
     intro l
     induction l with
     | nil=>intro i x hx;cases hx
     | cons s r ih=>
      intro i x hx
      rw[specNames] at hx
      rcases List.mem_cons.1 hx with rfl | hx
      ·exact⟨s,zzg ..,rfl⟩
      ·obtain⟨q,h1,h2⟩:=ih _ _ hx
       exact⟨q,zzk _ h1,h2⟩
    obtain⟨s,h1,h2⟩:=this l 0 x hx
    rw[h2]
    exact(hls s h1).1
   ·exact(hgs x hx).1
 have hnl:(namesD l gs).length<=100:=by
  unfold namesD
  rw[List.length_cons,List.length_append,specNames_length]
  omega
 -- what comes behind namesOf
 have HALL:Hid (∀(X1 X2:World) (g c ng nc:Nat) (xs:List GrpD),X1.ownsRow w.heap.size 76 10 (.slice (some ⟨g,0,none⟩) (len+1) c) (bareK zeroS::l.map bareK).length (flatK (bareK zeroS::l.map bareK))->Below w.heap.size w X1->Nms X1.heap.size X2 (.slice (some ⟨ng,0,none⟩) xs.length nc) xs->xs.map plainG=namesD l gs->Below X1.heap.size X1 X2->∀X3 X4,X3=X2.alloc (.cells #[.slice (some ⟨g,0,none⟩) (len+1) c,.slice (some ⟨ng,0,none⟩) xs.length nc] 81)->X4=X3.alloc (.cells #[.func (.func 48) #[] #[],.func (.func 49) #[] #[],.func (.func 50) #[] #[]] 86) →
   Below w.heap.size w X4/\(∀X,Below X4.heap.size X4 X->X.cell? ⟨X2.heap.size,0,none⟩=some (.slice (some ⟨g,0,none⟩) (len+1) c)/\X.cell? ⟨X2.heap.size,1,none⟩=some (.slice (some ⟨ng,0,none⟩) xs.length nc))/\Calls Tryz.prog 47 #[.pointer (some ⟨X2.heap.size,0,none⟩),.slice (some ⟨X3.heap.size,0,none⟩) 3 3] X4 (fun e w' => e=.returned (.bool (l.all okS))/\Below X4.heap.size X4 w') ∧
   (∀X,Below X4.heap.size X4 X->Calls Tryz.prog 51 #[.slice (some ⟨ng,0,none⟩) xs.length nc] X fun e w' => ∃r:Bool,e=.returned (.bool r)/\(r=true↔RightN (namesD l gs))/\Below X.heap.size X w') ∧
   (∀X,Below X4.heap.size X4 X->Calls Tryz.prog 52 #[.pointer (some ⟨X2.heap.size,0,none⟩),.string whole] X fun e w' => e=.returned (.int .i64 (firstE (whole::l.map (·.expr)) (namesD l gs)))/\Below w.heap.size w w' /\ (firstE (whole::l.map (·.expr)) (namesD l gs)=0->MadeS w' X2.heap.size whole l gs))):=by
  intro X1 X2 g c ng nc xs hown hB1 hnm hxn hB2 X3 X4 hX3 hX4
  have hxl:xs.length=(namesD l gs).length:=by rw[<-hxn,List.length_map]
  have hkl:(bareK zeroS::l.map bareK).length=len+1:=by rw[List.length_cons,List.length_map];omega
  have hB12:Below w.heap.size w X2:=hB1.trans (hB2.mono hB1.size)
  have hB23:Below X2.heap.size X2 X3:=by rw[hX3];exact(zzd _ _).alloc (zzb _) _
  have hB34:Below X3.heap.size X3 X4:=by rw[hX4];exact(zzd _ _).alloc (zzb _) _
  have m3:X3.heap[X2.heap.size]? = some (.cells #[.slice (some ⟨g,0,none⟩) (len+1) c,.slice (some ⟨ng,0,none⟩) xs.length nc] 81 (0,0)):=by rw[hX3];exact World.alloc_heap_new X2 _
  have hlt3:X2.heap.size<X3.heap.size:=(zza.1 m3).1
  have m4:X4.heap[X2.heap.size]? = some (.cells #[.slice (some ⟨g,0,none⟩) (len+1) c,.slice (some ⟨ng,0,none⟩) xs.length nc] 81 (0,0)):=(hB34.block _ hlt3).trans m3
  have f4:X4.heap[X3.heap.size]? = some (.cells #[.func (.func 48) #[] #[],.func (.func 49) #[] #[],.func (.func 50) #[] #[]] 86 (0,0)):=by rw[hX4];exact World.alloc_heap_new X3 _
  have hB24:Below X2.heap.size X2 X4:=hB23.trans (hB34.mono hB23.size)
  have hB14:Below X1.heap.size X1 X4:=hB2.trans (hB24.mono hB2.size)
  have hB4:Below w.heap.size w X4:=hB12.trans (hB24.mono hB12.size)
  have hlt4:X2.heap.size<X4.heap.size:=(zza.1 m4).1
  have hown4:X4.ownsRow w.heap.size 76 10 (.slice (some ⟨g,0,none⟩) (len+1) c) (bareK zeroS::l.map bareK).length (flatK (bareK zeroS::l.map bareK)):=owns_same hown fun k hk=>hB14.block k (owns_lt hown hk).1
  have hnm4:Nms w.heap.size X4 (.slice (some ⟨ng,0,none⟩) xs.length nc) xs:=(hnm.below hB24).base hB1.size
  refine⟨hB4,fun X hX=>?_,?_,fun X hX=>?_,fun X hX=>?_⟩
  ·have hc:=fun j=>cell_of_row X X2.heap.size j _ _ _ ((hX.block _ hlt4).trans m4)
   exact⟨hc 0,hc 1⟩
  ·have:=everytype_calls X2.heap.size g c X3.heap.size (.slice (some ⟨ng,0,none⟩) xs.length nc) (bareK zeroS::l.map bareK) X4 (by rw[hkl];exact m4) (kinds_at hown4) f4 (by omega)
   rw[all_bare] at this
   exact this
  ·have hgr:=(hnm4.below hX).groups rfl (by omega)
   rw[hxn] at hgr
   have hcap:xs.length<=nc/\nc<=maxLen:=by
    rcases hnm4.row.2 with ⟨e,_⟩ | ⟨g', cap,cur,e,_,_,h1,h2,_⟩
    ·cases e
    ·injection e with _ _ e3
     subst e3
     exact⟨h1,h2⟩
   exact rightnames_calls ng nc xs.length (namesD l gs) X hgr (by omega) hcap.1 (by have:=hcap.2;unfold maxLen at this;omega) hsz
  ·have hBX:Below w.heap.size w X:=hB4.trans (hX.mono hB4.size)
   have hR:RdI w.heap.size X X2.heap.size g c ng nc xs (whole::l.map (·.expr)) (zeroS::l) X (bareK zeroS::l.map bareK) 0:=by
    refine⟨by rw[hkl];exact(hX.block _ hlt4).trans m4,?_,hnm4.below hX,?_,fun j x s hj=>by omega,fun j s hj=>by omega,⟨rfl,rfl,rfl,zzb _,fun _ _ _=>rfl⟩,hE.below hBX⟩
    ·have:=owns_same hown4 (w' := X) fun k hk=>hX.block k (owns_lt hown4 hk).1
     rw[hkl] at this ⊢
     exact this
    ·rw[List.map_cons,List.map_map]
     show zeroS::l.map _=zeroS::l
     congr 1
     exact List.map_id' l
   have het:1<w.heap.size:=hE.lt
   refine(readall_calls w.heap.size X2.heap.size g c ng nc xs whole (whole::l.map (·.expr)) (zeroS::l) X (bareK zeroS::l.map bareK) hR het rfl (bare_expr l whole) (by simp) (fun s hs=>?_) (by omega) (by omega)).mono ?_
   ·rcases List.mem_cons.1 hs with rfl | hs
    ·exact hw
    ·obtain⟨q,hq,rfl⟩:=List.mem_map.1 hs
     exact(hls q hq).2
   ·rintro e w' ⟨rfl,hgr,hz⟩
    rw[hxn] at hz ⊢
    refine⟨rfl,hBX.grown hgr hBX.size (fun k e=>by injection e with e;subst e;exact owned_base hown (g:=g) rfl),fun h0=>?_⟩
    obtain⟨ks', hk', hI⟩:=hz h0
    rw[<-hk'] at hI
    exact hI.made hxn (by omega) (by omega)
 generalize hnew:newE whole l gs=NE at *
 have HNE:=Hid.mk_ hnE
 clear hl hG hls hgs hE hsz hnl hnE hnew
 go_enter Tryz.func16,Tryz.ntmps16
 go_wp2_with fail
 refine HKO.out.mono ?_
 rintro e X1 ⟨g,c,rfl,hown,hB1⟩
 have HX1:Hid (X1.ownsRow w.heap.size 76 10 (.slice (some ⟨g,0,none⟩) (len+1) c) (bareK zeroS::l.map bareK).length (flatK (bareK zeroS::l.map bareK))/\Below w.heap.size w X1):=⟨hown,hB1⟩
 have HN1:=HNO.out X1 hB1
 clear hown hB1 HKO HNO
 go_wp2_with fail
 refine HN1.mono ?_
 rintro e X2 ⟨ng,nc,xs,rfl,hnm,hxn,hB2⟩
 obtain⟨hB4,hcells,hev,hrn,hra⟩:=HALL.out X1 X2 g c ng nc xs HX1.out.1 HX1.out.2 hnm hxn hB2 _ _ rfl rfl
 have HB4:=Hid.mk_ hB4
 have HCE:=Hid.mk_ hcells
 have HRN:=Hid.mk_ hrn
 have HRA:=Hid.mk_ hra
 obtain⟨ca,hca⟩:∃r,r=l.all okS:=⟨_,rfl⟩
 rw[<-hca] at hev HNE
 clear hnm hxn hB2 HALL HN1 HX1 hB4 hcells hrn hra hca
 rw[World.size_alloc] at hev
 go_wp2_with fail
 refine hev.mono ?_
 rintro e X5 ⟨rfl,hB5⟩
 have HB5:Hid (Below w.heap.size w X5):=HB4.out.trans (hB5.mono HB4.out.size)
 have HBX5:=Hid.mk_ hB5
 obtain⟨k0,k1⟩:=HCE.out X5 hB5
 have HRN5:=HRN.out X5 hB5
 clear hB5 hev
 cases ca with
 | false=>
  have HN:Hid (NE=1):=by
   show NE=1
   rw[HNE.out,if_neg (by simp)]
  clear HRN5
  go_wp2
  go_ret2
  exact⟨HB5.out,.inl ⟨by rw[HN.out];decide,by rw[HN.out];rfl⟩⟩
 | true=>
  go_wp2_with fail
  refine HRN5.mono ?_
  rintro e X6 ⟨r,rfl,hr,hB6⟩
  have hB46:=HBX5.out.trans (hB6.mono HBX5.out.size)
  have HB6:Hid (Below w.heap.size w X6):=HB4.out.trans (hB46.mono HB4.out.size)
  have HRA6:=HRA.out X6 hB46
  have HR:=Hid.mk_ hr
  clear hB6 hB46 hr HRN5 HRN HRA
  cases r with
  | false=>
   have HN:Hid (NE=1):=by
    show NE=1
    rw[HNE.out,if_neg (fun h=>by cases HR.out.2 h.2)]
   clear HRA6
   go_wp2
   go_ret2
   exact⟨HB6.out,.inl ⟨by rw[HN.out];decide,by rw[HN.out];rfl⟩⟩
  | true=>
   have hN:NE=firstE (whole::l.map (·.expr)) (namesD l gs):=by
    rw[HNE.out,if_pos ⟨rfl,HR.out.1 (by first | rfl | trivial)⟩]
   rw[<-hN] at HRA6
   clear HNE hN HR
   go_wp2_with fail
   refine HRA6.mono ?_
   rintro e X7 ⟨rfl,hB7,hmade⟩
   have HE:Hid (Below w.heap.size w X7/\(NE=0->MadeS X7 X2.heap.size whole l gs)):=⟨hB7,hmade⟩
   clear hB7 hmade HRA6
   by_cases hz:NE=0
   ·subst hz
    have hb0:((0:Int) != 0)=false:=rfl
    go_wp2
    go_ret2
    first | exact⟨HE.out.1,.inr ⟨rfl,X2.heap.size,rfl,HE.out.2 rfl⟩⟩ | exact⟨HE.out.1,X2.heap.size,rfl,HE.out.2 (by first | rfl | trivial)⟩
   ·have e0:(NE==0)=false:=by simpa using hz
    have e1:(NE != 0)=true:=by simp[bne,e0]
    go_wp2
    go_ret2
    exact⟨HE.out.1,.inl ⟨hz,rfl⟩⟩
end Go.Proofs.YtmablhmpfcefnaaGreatDoor
