/-
  PROVED HERE: what the texts DFNewF, DFRNewP say.
-/
import Derived.Test.YtjkebndkeamijaaGreatDoorCF27
set_option maxRecDepth 100000
set_option maxHeartbeats 800000
namespace Go.Proofs.YtjkebndkeamijaaGreatDoor
open Go.RowKit
noncomputable def newE (whole:ByteArray)(l:List SpecD)(gs:List Grp):Int :=
 open Classical in
 if 15<l.length\/16<gs.length then 1
 else if l.all okS=true/\RightN (namesD l gs) then firstE (whole::l.map (·.expr)) (namesD l gs)
 else 1
structure SchAt (w:World) (B g c ng nc:Nat) (ks:List KindD) (gs:List Grp) (ts:List (DataW Unit)):Prop where
 sch:w.heap[B]? = some (.cells #[.slice (some ⟨g,0,none⟩) ks.length c,.slice (some ⟨ng,0,none⟩) gs.length nc] 86 (0,0))
 glt:g<w.heap.size
 kinds:∀(i:Nat) (x:KindD),ks[i]? = some x->SpecAt w g (i * 10) x.1/\w.cell? ⟨g,i * 10+7,none⟩=some (.int .i64 x.2.1)/\w.cell? ⟨g,i * 10+8,none⟩=some (.string x.2.2.1)/\w.cell? ⟨g,i * 10+9,none⟩=some (.slice x.2.2.2.1 x.2.2.2.2.1 x.2.2.2.2.2)
 names:Groups w (some ⟨ng,0,none⟩) gs.length gs
 len:ts.length=ks.length
 cap:ks.length<=c/\c<=9223372036854775807/\ks.length<=16
 trees:∀(i:Nat) (x:KindD) (t:DataW Unit),ks[i]? = some x->ts[i]? = some t->Ex w 200 t (rawV x.2)/\named 200 t/\chk 200 t gs=0
theorem SchAt.below {w w' : World}{B g c ng nc:Nat}{ks:List KindD}{gs:List Grp}{ts:List (DataW Unit)}(h:SchAt w B g c ng nc ks gs ts)(hB:Below w.heap.size w w'):SchAt w' B g c ng nc ks gs ts:=by
 have e:∀k,w'.cell? ⟨g,k,none⟩=w.cell? ⟨g,k,none⟩:=fun k=>zzi (hB.block g h.glt)
 refine⟨(hB.block B (zza.1 h.sch).1).trans h.sch,zzl h.glt hB.size,fun i x hx=>?_,h.names.below hB,h.len,h.cap,fun i x t hx ht=>?_⟩
 ·obtain⟨h1,h2,h3,h4⟩:=h.kinds i x hx
  exact⟨h1.same (hB.block g h.glt),by rw[e];exact h2,by rw[e];exact h3,by rw[e];exact h4⟩
 ·obtain⟨h1,h2,h3⟩:=h.trees i x t hx ht
  exact⟨Ex.below hB _ _ _ h1,h2,h3⟩
def treesOf (whole:ByteArray)(l:List SpecD):List (DataW Unit):=(whole::l.map (·.expr)).map outTree
def MadeS (w:World)(B:Nat)(whole:ByteArray)(l:List SpecD)(gs:List Grp):Prop:=∃g c ng nc ks,SchAt w B g c ng nc ks (namesD l gs) (treesOf whole l)/\ks.map (·.1)=zeroS::l
theorem MadeS.below {w w' : World}{B:Nat}{whole:ByteArray}{l:List SpecD}{gs:List Grp}(h:MadeS w B whole l gs)(hB:Below w.heap.size w w'):MadeS w' B whole l gs:=by
 obtain⟨g,c,ng,nc,ks,h1,h2⟩:=h
 exact⟨g,c,ng,nc,ks,h1.below hB,h2⟩
theorem readE_zero {s:ByteArray}{gs:List Grp}(h:readE s gs=0):chk 200 (outTree s) gs=0:=by
 unfold readE at h
 split at h
 ·rename_i h1
  exact absurd h h1
 ·exact h
theorem RdI.made {base:Nat}{w0:World}{B g c ng nc:Nat}{xs:List GrpD}{whole:ByteArray}{l:List SpecD}{gs:List Grp}{wr:World}{ks:List KindD}(h:RdI base w0 B g c ng nc xs (whole::l.map (·.expr)) (zeroS::l) wr ks ks.length)(hn:xs.map plainG=namesD l gs)(hl:l.length<=15)(hxl:xs.length<=1000):MadeS wr B whole l gs:=by
 have hkl:ks.length=l.length+1:=by have:=congrArg List.length h.spec;rw[List.length_map,List.length_cons] at this;exact this
 have hnl:(namesD l gs).length=xs.length:=by rw[<-hn,List.length_map]
 obtain⟨hgl,_⟩:=owns_lt h.row (g:=g) rfl
 have hcap:ks.length<=c/\c<=maxLen:=by
  rcases h.row.2 with ⟨e,_⟩ | ⟨g', cap,cur,e,_,_,h1,h2,_⟩
  ·cases e
  ·injection e with _ _ e3
   subst e3;exact⟨h1,h2⟩
 refine⟨g,c,ng,nc,ks,⟨by rw[hnl];exact h.sch,hgl,fun i x hx=>?_,by rw[hnl,<-hn];exact h.nms.groups rfl oo,by unfold treesOf;simp;omega,⟨hcap.1,by have:=hcap.2;unfold maxLen at this;omega,oo⟩,fun i x t hx ht=>?_⟩,h.spec⟩
 ·obtain⟨g', cap', e,hc⟩:=owns_cell h.row oo
  (injection e with e1);(injection e1 with e1);(injection e1 with e1);subst e1;exact⟨(kinds_at h.row).2 i x hx,hc _ _ (flatK_at (j:=7) hx rfl),hc _ _ (flatK_at (j:=8) hx rfl),hc _ _ (flatK_at (j:=9) hx rfl)⟩
 ·unfold treesOf at ht
  rw[List.getElem?_map] at ht;cases hs:(whole::l.map (·.expr))[i]? with
  | none=>rw[hs] at ht;cases ht
  | some s=>
   rw[hs] at ht;cases ht;have hi:i<ks.length:=(zzc.1 hx).1;refine⟨ExA.ex _ _ _ (h.tree i x s hi hx hs),out_named s,?_⟩
   have:=readE_zero (h.zero i s hi hs)
   rw[hn] at this;exact this
theorem Nms.base {b b' : Nat}{W:World}{v:Value}{xs:List GrpD}(h:Nms b W v xs)(hb:b' <= b):Nms b' W v xs:=by
 refine⟨⟨h.row.1,?_⟩,h.ok⟩
 rcases h.row.2 with h2 | ⟨g,cap,cur,h1,h2,h3⟩
 ·exact .inl h2
 ·exact .inr ⟨g,cap,cur,h1,Nat.le_trans hb h2,h3⟩
theorem bare_expr (l:List SpecD)(whole:ByteArray):∀(j:Nat) (x:KindD),1<=j->(bareK zeroS::l.map bareK)[j]? = some x->(whole::l.map (·.expr))[j]? = some x.1.expr:=by
 intro j x hj hx
 obtain⟨k,rfl⟩:∃k,j=k+1:=⟨j - 1,oo⟩
 rw[List.getElem?_cons_succ,List.getElem?_map] at hx ⊢
 cases hq:l[k]? with
 | none=>rw[hq] at hx;cases hx
 | some y=>
  rw[hq] at hx;cases hx
  rfl
theorem all_bare (l:List SpecD):(((bareK zeroS::l.map bareK).drop 1).all fun x=>okS x.1)=l.all okS:=by
 rw[List.drop_succ_cons,List.drop_zero,List.all_map]
 rfl
theorem k52{p:Prop}(h:p:=by
  have HR:Hid (Below w.heap.size w w):=zzd _ _;clear hl hG hls hgs hE;go_enter Tryz.func16,Tryz.ntmps16;go_wp2;go_ret2;exact⟨HR.out,.inl ⟨by rw[HN.out];decide,by rw[HN.out];rfl⟩⟩
  ):p:=h
theorem new_calls (whole:ByteArray)(a:Option Addr)(len cap:Nat)(l:List SpecD)(ga:Option Addr)(gl gc:Nat)(gs:List Grp)(w:World)(hw:whole.size<=9223372036854775807)(hl:Specs w a len l)(hG:Groups w ga gl gs)(hls:∀x∈l,x.name.size<=9223372036854775807/\x.expr.size<=9223372036854775807)(hgs:∀x∈gs,x.1.size<=9223372036854775807/\x.2.length<=1500000)(hE:ETy w) :
  Calls Tryz.prog 16 #[.string whole,.slice a len cap,.slice ga gl gc] w fun e w' => Below w.heap.size w w' /\ ((newE whole l gs≠0/\e=.returned (.tuple #[.pointer none,.int .i64 (newE whole l gs)]))\/(newE whole l gs=0/\∃B,e=.returned (.tuple #[.pointer (some ⟨B,0,none⟩),.int .i64 0])/\MadeS w' B whole l gs)):=by
 have hll:=hl.1
 have hgl:=hG.1
 have hl63:=hl.2.1
 have hg63:=hG.2.1
 have hli:(len:Int)<=9223372036854775807:=by omega
 have hgi:(gl:Int)<=9223372036854775807:=by omega
 by_cases h1:15<len
 ·have HN:Hid (newE whole l gs=1):=by
   show newE whole l gs=1
   unfold newE;rw[if_pos (.inl oo)]
  have hd:decide ((15:Int)<(len:Int))=true:=by simp;omega
  exact k52
 have hd1:decide ((15:Int)<(len:Int))=false:=by simp;omega
 by_cases h2:16<gl
 ·have HN:Hid (newE whole l gs=1):=by
   show newE whole l gs=1
   unfold newE;rw[if_pos (.inr oo)]
  have hd:decide ((16:Int)<(gl:Int))=true:=by simp;omega
  exact k52
 have hd2:decide ((16:Int)<(gl:Int))=false:=by simp;omega
 have hnE:newE whole l gs=(open Classical in if l.all okS=true/\RightN (namesD l gs) then firstE (whole::l.map (·.expr)) (namesD l gs) else 1):=by
  unfold newE;rw[if_neg oo]
 have HKO:=Hid.mk_ (kindsof_calls a len cap l w hl oo)
 have HNO:Hid (∀X,Below w.heap.size w X->Calls Tryz.prog 51 #[.slice a len cap,.slice ga gl gc] X fun e w' => ∃(g c:Nat) (xs:List GrpD),e=.returned (.slice (some ⟨g,0,none⟩) xs.length c)/\Nms X.heap.size w' (.slice (some ⟨g,0,none⟩) xs.length c) xs/\xs.map plainG=namesD l gs/\Below X.heap.size X w'):=fun X hX=>namesof_calls a len cap l ga gl gc gs X (hl.below hX) (hG.below hX) oo oo (fun x hx=>(hgs x hx).2)
 have hsz:∀x∈namesD l gs,x.1.size<=9223372036854775807:=by
  intro x hx;unfold namesD at hx;rcases List.mem_cons.1 hx with rfl | hx
  ·decide
  ·rcases List.mem_append.1 hx with hx | hx
   ·have:∀(l:List SpecD) (i:Nat) (x:Grp),x∈specNames i l->∃s∈l,x.1=s.name:=by
     intro l
     induction l with
     | nil=>intro i x hx;cases hx
     | cons s r ih=>
      intro i x hx;rw[specNames] at hx;rcases List.mem_cons.1 hx with rfl | hx
      ·exact⟨s,zzg ..,rfl⟩
      ·obtain⟨q,h1,h2⟩:=ih _ _ hx
       exact⟨q,zzk _ h1,h2⟩
    obtain⟨s,h1,h2⟩:=this l 0 x hx;rw[h2];exact(hls s h1).1
   ·exact(hgs x hx).1
 have hnl:(namesD l gs).length<=100:=by
  unfold namesD;rw[List.length_cons,List.length_append,specNames_length];omega
 -- what comes behind namesOf
 have HALL:Hid (∀(X1 X2:World) (g c ng nc:Nat) (xs:List GrpD),X1.ownsRow w.heap.size 81 10 (.slice (some ⟨g,0,none⟩) (len+1) c) (bareK zeroS::l.map bareK).length (flatK (bareK zeroS::l.map bareK))->Below w.heap.size w X1->Nms X1.heap.size X2 (.slice (some ⟨ng,0,none⟩) xs.length nc) xs->xs.map plainG=namesD l gs->Below X1.heap.size X1 X2->∀X3 X4,X3=X2.alloc (.cells #[.slice (some ⟨g,0,none⟩) (len+1) c,.slice (some ⟨ng,0,none⟩) xs.length nc] 86)->X4=X3.alloc (.cells #[.func (.func 53) #[] #[],.func (.func 54) #[] #[],.func (.func 55) #[] #[]] 91) →
   Below w.heap.size w X4/\(∀X,Below X4.heap.size X4 X->X.cell? ⟨X2.heap.size,0,none⟩=some (.slice (some ⟨g,0,none⟩) (len+1) c)/\X.cell? ⟨X2.heap.size,1,none⟩=some (.slice (some ⟨ng,0,none⟩) xs.length nc))/\Calls Tryz.prog 52 #[.pointer (some ⟨X2.heap.size,0,none⟩),.slice (some ⟨X3.heap.size,0,none⟩) 3 3] X4 (fun e w' => e=.returned (.bool (l.all okS))/\Below X4.heap.size X4 w') ∧
   (∀X,Below X4.heap.size X4 X->Calls Tryz.prog 56 #[.slice (some ⟨ng,0,none⟩) xs.length nc] X fun e w' => ∃r:Bool,e=.returned (.bool r)/\(r=true↔RightN (namesD l gs))/\Below X.heap.size X w') ∧
   (∀X,Below X4.heap.size X4 X->Calls Tryz.prog 57 #[.pointer (some ⟨X2.heap.size,0,none⟩),.string whole] X fun e w' => e=.returned (.int .i64 (firstE (whole::l.map (·.expr)) (namesD l gs)))/\Below w.heap.size w w' /\ (firstE (whole::l.map (·.expr)) (namesD l gs)=0->MadeS w' X2.heap.size whole l gs))):=by
  intro X1 X2 g c ng nc xs hown hB1 hnm hxn hB2 X3 X4 hX3 hX4;(have hxl:xs.length=(namesD l gs).length:=by rw[<-hxn,List.length_map]);(have hkl:(bareK zeroS::l.map bareK).length=len+1:=by rw[List.length_cons,List.length_map];omega);have hB12:Below w.heap.size w X2:=hB1.trans (hB2.mono hB1.size);(have hB23:Below X2.heap.size X2 X3:=by rw[hX3];exact(zzd _ _).alloc (zzb _) _);(have hB34:Below X3.heap.size X3 X4:=by rw[hX4];exact(zzd _ _).alloc (zzb _) _);(have m3:X3.heap[X2.heap.size]? = some (.cells #[.slice (some ⟨g,0,none⟩) (len+1) c,.slice (some ⟨ng,0,none⟩) xs.length nc] 86 (0,0)):=by rw[hX3];exact World.alloc_heap_new X2 _);have hlt3:X2.heap.size<X3.heap.size:=(zza.1 m3).1;have m4:X4.heap[X2.heap.size]? = some (.cells #[.slice (some ⟨g,0,none⟩) (len+1) c,.slice (some ⟨ng,0,none⟩) xs.length nc] 86 (0,0)):=(hB34.block _ hlt3).trans m3;(have f4:X4.heap[X3.heap.size]? = some (.cells #[.func (.func 53) #[] #[],.func (.func 54) #[] #[],.func (.func 55) #[] #[]] 91 (0,0)):=by rw[hX4];exact World.alloc_heap_new X3 _);have hB24:Below X2.heap.size X2 X4:=hB23.trans (hB34.mono hB23.size);have hB14:Below X1.heap.size X1 X4:=hB2.trans (hB24.mono hB2.size);have hB4:Below w.heap.size w X4:=hB12.trans (hB24.mono hB12.size);have hlt4:X2.heap.size<X4.heap.size:=(zza.1 m4).1;(have hown4:X4.ownsRow w.heap.size 81 10 (.slice (some ⟨g,0,none⟩) (len+1) c) (bareK zeroS::l.map bareK).length (flatK (bareK zeroS::l.map bareK)):=owns_same hown fun k hk=>hB14.block k (owns_lt hown hk).1);have hnm4:Nms w.heap.size X4 (.slice (some ⟨ng,0,none⟩) xs.length nc) xs:=(hnm.below hB24).base hB1.size;refine⟨hB4,fun X hX=>?_,?_,fun X hX=>?_,fun X hX=>?_⟩
  ·have hc:=fun j=>cell_of_row X X2.heap.size j _ _ _ ((hX.block _ hlt4).trans m4)
   exact⟨hc 0,hc 1⟩
  ·have:=everytype_calls X2.heap.size g c X3.heap.size (.slice (some ⟨ng,0,none⟩) xs.length nc) (bareK zeroS::l.map bareK) X4 (by rw[hkl];exact m4) (kinds_at hown4) f4 oo
   rw[all_bare] at this;exact this
  ·have hgr:=(hnm4.below hX).groups rfl oo
   rw[hxn] at hgr
   have hcap:xs.length<=nc/\nc<=maxLen:=by
    rcases hnm4.row.2 with ⟨e,_⟩ | ⟨g', cap,cur,e,_,_,h1,h2,_⟩
    ·cases e
    ·injection e with _ _ e3
     subst e3;exact⟨h1,h2⟩
   exact rightnames_calls ng nc xs.length (namesD l gs) X hgr oo hcap.1 (by have:=hcap.2;unfold maxLen at this;omega) hsz
  ·have hBX:Below w.heap.size w X:=hB4.trans (hX.mono hB4.size)
   have hR:RdI w.heap.size X X2.heap.size g c ng nc xs (whole::l.map (·.expr)) (zeroS::l) X (bareK zeroS::l.map bareK) 0:=by
    refine⟨by rw[hkl];exact(hX.block _ hlt4).trans m4,?_,hnm4.below hX,?_,fun j x s hj=>by omega,fun j s hj=>by omega,⟨rfl,rfl,rfl,zzb _,fun _ _ _=>rfl⟩,hE.below hBX⟩
    ·have:=owns_same hown4 (w' := X) fun k hk=>hX.block k (owns_lt hown4 hk).1
     rw[hkl] at this ⊢;exact this
    ·rw[List.map_cons,List.map_map]
     show zeroS::l.map _=zeroS::l
     congr 1
     exact List.map_id' l
   have het:1<w.heap.size:=hE.lt;refine(readall_calls w.heap.size X2.heap.size g c ng nc xs whole (whole::l.map (·.expr)) (zeroS::l) X (bareK zeroS::l.map bareK) hR het rfl (bare_expr l whole) (by simp) (fun s hs=>?_) oo oo).mono ?_
   ·rcases List.mem_cons.1 hs with rfl | hs
    ·exact hw
    ·obtain⟨q,hq,rfl⟩:=List.mem_map.1 hs
     exact(hls q hq).2
   ·rintro e w' ⟨rfl,hgr,hz⟩
    rw[hxn] at hz ⊢;refine⟨rfl,hBX.grown hgr hBX.size (fun k e=>by injection e with e;subst e;exact owned_base hown (g:=g) rfl),fun h0=>?_⟩;obtain⟨ks', hk', hI⟩:=hz h0;rw[<-hk'] at hI;exact hI.made hxn oo oo
 generalize hnew:newE whole l gs=NE at *
 have HNE:=Hid.mk_ hnE
 clear hl hG hls hgs hE hsz hnl hnE hnew
 go_enter Tryz.func16,Tryz.ntmps16
 go_wp2_with fail
 refine HKO.out.mono ?_
 rintro e X1 ⟨g,c,rfl,hown,hB1⟩
 have HX1:Hid (X1.ownsRow w.heap.size 81 10 (.slice (some ⟨g,0,none⟩) (len+1) c) (bareK zeroS::l.map bareK).length (flatK (bareK zeroS::l.map bareK))/\Below w.heap.size w X1):=⟨hown,hB1⟩
 have HN1:=HNO.out X1 hB1
 clear hown hB1 HKO HNO
 go_wp2_with fail
 refine HN1.mono ?_
 rintro e X2 ⟨ng,nc,xs,rfl,hnm,hxn,hB2⟩
 obtain⟨hB4,hcells,hev,hrn,hra⟩:=HALL.out X1 X2 g c ng nc xs HX1.out.1 HX1.out.2 hnm hxn hB2 _ _ rfl rfl
 have HB4:=Hid.mk_ hB4
 have HCE:=Hid.mk_ hcells
 have HRN:=Hid.mk_ hrn
 have HRA:=Hid.mk_ hra
 obtain⟨ca,hca⟩:∃r,r=l.all okS:=⟨_,rfl⟩
 rw[<-hca] at hev HNE
 clear hnm hxn hB2 HALL HN1 HX1 hB4 hcells hrn hra hca
 rw[World.size_alloc] at hev
 go_wp2_with fail
 refine hev.mono ?_
 rintro e X5 ⟨rfl,hB5⟩
 have HB5:Hid (Below w.heap.size w X5):=HB4.out.trans (hB5.mono HB4.out.size)
 have HBX5:=Hid.mk_ hB5
 obtain⟨k0,k1⟩:=HCE.out X5 hB5
 have HRN5:=HRN.out X5 hB5
 clear hB5 hev
 cases ca with
 | false=>
  have HN:Hid (NE=1):=by
   show NE=1
   rw[HNE.out,if_neg (by simp)]
  clear HRN5;go_wp2;go_ret2;exact⟨HB5.out,.inl ⟨by rw[HN.out];decide,by rw[HN.out];rfl⟩⟩
 | true=>
  (go_wp2_with fail);refine HRN5.mono ?_;rintro e X6 ⟨r,rfl,hr,hB6⟩;have hB46:=HBX5.out.trans (hB6.mono HBX5.out.size);have HB6:Hid (Below w.heap.size w X6):=HB4.out.trans (hB46.mono HB4.out.size);have HRA6:=HRA.out X6 hB46;have HR:=Hid.mk_ hr;clear hB6 hB46 hr HRN5 HRN HRA;cases r with
  | false=>
   have HN:Hid (NE=1):=by
    show NE=1
    rw[HNE.out,if_neg (fun h=>by cases HR.out.2 h.2)]
   clear HRA6;go_wp2;go_ret2;exact⟨HB6.out,.inl ⟨by rw[HN.out];decide,by rw[HN.out];rfl⟩⟩
  | true=>
   have hN:NE=firstE (whole::l.map (·.expr)) (namesD l gs):=by
    rw[HNE.out,if_pos ⟨rfl,HR.out.1 (by first | rfl | trivial)⟩]
   rw[<-hN] at HRA6;clear HNE hN HR;(go_wp2_with fail);refine HRA6.mono ?_;rintro e X7 ⟨rfl,hB7,hmade⟩;have HE:Hid (Below w.heap.size w X7/\(NE=0->MadeS X7 X2.heap.size whole l gs)):=⟨hB7,hmade⟩;clear hB7 hmade HRA6
   by_cases hz:NE=0
   ·subst hz
    have hb0:((0:Int) != 0)=false:=rfl;go_wp2;go_ret2
    first | exact⟨HE.out.1,.inr ⟨rfl,X2.heap.size,rfl,HE.out.2 rfl⟩⟩ | exact⟨HE.out.1,X2.heap.size,rfl,HE.out.2 (by first | rfl | trivial)⟩
   ·have e0:(NE==0)=false:=by simpa using hz
    (have e1:(NE != 0)=true:=by simp[bne,e0]);go_wp2;go_ret2;exact⟨HE.out.1,.inl ⟨hz,rfl⟩⟩
theorem ints_same {W W1:World}{a:Option Addr}{n:Nat}{zs:List Int}(h:Ints W a n zs)(hs:W.heap.size<=W1.heap.size)(hb:n≠0->∀b o,a=some ⟨b,o,none⟩->b<W.heap.size->W1.heap[b]? = W.heap[b]?):Ints W1 a n zs:=by
 obtain⟨h1,h2,h3⟩:=h
 refine⟨h1,h2,?_⟩
 by_cases hn:n=0
 ·exact .inl hn
 ·rcases h3 with h3 | ⟨b,o,rfl,hlt,hc⟩
  ·exact .inl h3
  ·exact .inr ⟨b,o,rfl,oo,fun i x hx=>by rw[zzi (hb hn b o rfl hlt)];exact hc i x hx⟩
def TyAt (base:Nat)(W:World)(x:GrpD):Prop:=Ints W x.2.1 x.2.2.2.length x.2.2.2/\(x.2.2.2.length≠0->∀a,x.2.1=some a->a.block<base\/∃cs f,W.heap[a.block]? = some (.cells cs 3 f))
structure NmR (base:Nat) (W:World) (v:Value) (xs:List GrpD):Prop where
 row:W.ownsRow base 63 2 v xs.length (flatG xs)
 ok:∀x∈xs,TyAt base W x
theorem TyAt.below {base:Nat}{W W' : World}{x:GrpD}(h:TyAt base W x)(hB:Below W.heap.size W W'):TyAt base W' x:=⟨h.1.below hB,fun h0 a ha=>by
 rcases h.2 h0 a ha with h1 | ⟨cs,f,h1⟩
 ·exact .inl h1
 ·exact .inr ⟨cs,f,(hB.block _ (zza.1 h1).1).trans h1⟩⟩
theorem NmR.below {base:Nat}{W W' : World}{v:Value}{xs:List GrpD}(h:NmR base W v xs)(hB:Below W.heap.size W W'):NmR base W' v xs :=
 ⟨owns_same h.row fun g hg=>hB.block g (owns_lt h.row hg).1,fun x hx=>(h.ok x hx).below hB⟩
theorem NmR.put {base:Nat}{W:World}{v:Value}{xs:List GrpD}(h:NmR base W v xs)(x:GrpD)(hx:TyAt base W x)(hlen:xs.length<=1000000)(hbase:base<=W.heap.size)(b:Nat)(hc:∀j u,(grpC x)[j]? = some u->W.cell? ((⟨b,0,none⟩:Addr).add j)=some u) :
  ∃g' cap' W1,(Builtin.append_ #[39,39] 39 #[v,.slice (some ⟨b,0,none⟩) 1 1]).run Tryz.prog W=.ok (.slice (some ⟨g', 0,none⟩) (xs.length+1) cap') W1/\NmR base W1 (.slice (some ⟨g', 0,none⟩) (xs.length+1) cap') (xs++[x])/\W.grownBy W1 v.ownBlock:=by
 obtain⟨i0,hi,hz0,hz1,hz2⟩:=info_parts infoGrp
 obtain⟨v', W1,hrun,r1,r2,_,_⟩:=run_append_own_at (P:=Tryz.prog) W base 39 39 63 i0 _ 2 40 Tryz.underlying39 hi hz0 hz1 hz2 rfl (by decide) v xs.length _ h.row ⟨b,0,none⟩ 1 1 (grpC x) rfl hc (fun u hu=>by
  simp only[grpC,List.mem_cons,List.not_mem_nil,or_false] at hu
  rcases hu with rfl | rfl<;>rfl) (by unfold maxLen;omega) oo hbase
 have e1:flatG xs++grpC x=flatG (xs++[x]):=by rw[flatG_append];simp[flatG]
 rw[e1] at r1
 have apart:∀(b:Nat),b<W.heap.size->(b<base\/∃cs f,W.heap[b]? = some (.cells cs 3 f))->W1.heap[b]? = W.heap[b]? := fun b hlt hy=>by
  refine r2.block b hlt (fun he=>?_);obtain⟨_,cur', hcur'⟩:=owns_lt h.row he.symm;rcases hy with h1 | ⟨cs,f,h1⟩
  ·have:=owned_base h.row he.symm
   omega
  ·rw[hcur'] at h1
   (injection h1 with hk);(injection hk with _ h2 _);exact grp_type h2.symm
 have keep:∀y:GrpD,TyAt base W y->TyAt base W1 y:=fun y hy=>by
  refine⟨ints_same hy.1 r2.size fun h0 b o hb hlt=>apart b hlt (hy.2 h0 _ hb),fun h0 a ha=>?_⟩;rcases hy.2 h0 a ha with h1 | ⟨cs,f,h1⟩
  ·exact .inl h1
  ·exact .inr ⟨cs,f,(apart _ (zza.1 h1).1 (.inr ⟨cs,f,h1⟩)).trans h1⟩
 exact k44
theorem NmR.groups {base:Nat}{W:World}{g c:Nat}{n:Nat}{xs:List GrpD}(h:NmR base W (.slice (some ⟨g,0,none⟩) n c) xs)(hn:n=xs.length)(hlen:xs.length<=1000000):Groups W (some ⟨g,0,none⟩) n (xs.map plainG):=by
 subst hn
 refine⟨by rw[List.length_map],oo,?_⟩
 rcases Nat.eq_zero_or_pos xs.length with h0 | h0
 ·exact .inl h0
 ·obtain⟨g', cap', e,hc⟩:=owns_cell h.row h0
  (injection e with e1);(injection e1 with e1);(injection e1 with e1);subst e1;refine .inr ⟨g,0,rfl,(owns_lt h.row (g:=g) rfl).1,fun i y hy=>?_⟩;rw[List.getElem?_map] at hy;cases hx:xs[i]? with
  | none=>rw[hx] at hy;cases hy
  | some x=>
   rw[hx] at hy;cases hy;obtain⟨f1,f2⟩:=flatG_at hx;rw[Nat.zero_add];exact⟨x.2.1,x.2.2.2.length,x.2.2.1,hc _ _ f1,hc _ _ f2,(h.ok x (zzj hx)).1⟩
theorem one_ints (W:World)(t:Int):Ints (W.alloc (.cells #[.int .i64 t] 3)) (some ⟨W.heap.size,0,none⟩) 1 [t]:=Ints.one (World.alloc_heap_new W _)
theorem nmr_first (w:World):NmR w.heap.size ((w.alloc (.cells #[.int .i64 0] 3)).alloc (.cells #[.string textB,.slice (some ⟨w.heap.size,0,none⟩) 1 1] 63)) (.slice (some ⟨w.heap.size+1,0,none⟩) 1 1) [(textB,some ⟨w.heap.size,0,none⟩,1,[0])]:=by
 refine⟨(names_first w).row,fun x hx=>?_⟩
 rw[List.mem_singleton] at hx
 subst hx
 have hB:Below (w.alloc (.cells #[.int .i64 0] 3)).heap.size (w.alloc (.cells #[.int .i64 0] 3)) ((w.alloc (.cells #[.int .i64 0] 3)).alloc (.cells #[.string textB,.slice (some ⟨w.heap.size,0,none⟩) 1 1] 63)):=(zzd _ _).alloc (zzb _) _
 refine⟨(one_ints w 0).below hB,fun _ a ha=>?_⟩
 cases ha
 exact .inr ⟨_,_,(hB.block w.heap.size (by rw[World.size_alloc];omega)).trans (World.alloc_heap_new w _)⟩
theorem nmr_type {w wr:World}{v:Value}{xs:List GrpD}{i:Nat}(h:NmR w.heap.size wr v xs)(hlen:xs.length<=100)(hB:Below w.heap.size w wr)(nm:ByteArray) :
  ∃g' cap' W1,(Builtin.append_ #[39,39] 39 #[v,.slice (some ⟨wr.heap.size+1,0,none⟩) 1 1]).run Tryz.prog ((wr.alloc (.cells #[.int .i64 ((i:Int)+1)] 3)).alloc (.cells #[.string nm,.slice (some ⟨wr.heap.size,0,none⟩) 1 1] 63))=.ok (.slice (some ⟨g', 0,none⟩) (xs.length+1) cap') W1/\NmR w.heap.size W1 (.slice (some ⟨g', 0,none⟩) (xs.length+1) cap') (xs++[(nm,some ⟨wr.heap.size,0,none⟩,1,[(i:Int)+1])])/\Below w.heap.size w W1:=by
 obtain⟨W2,hW2⟩:∃W2,W2=wr.alloc (.cells #[.int .i64 ((i:Int)+1)] 3):=⟨_,rfl⟩
 have s2:W2.heap.size=wr.heap.size+1:=by rw[hW2,World.size_alloc]
 have hB2:Below wr.heap.size wr W2:=by rw[hW2];exact(zzd _ wr).alloc (zzb _) _
 have hi2:Ints W2 (some ⟨wr.heap.size,0,none⟩) 1 [(i:Int)+1]:=by rw[hW2];exact one_ints wr _
 have m2:W2.heap[wr.heap.size]? = some (.cells #[.int .i64 ((i:Int)+1)] 3 (0,0)):=by rw[hW2];exact World.alloc_heap_new wr _
 rw[<-hW2,<-s2]
 clear hW2
 obtain⟨W3,hW3⟩:∃W3,W3=W2.alloc (.cells #[.string nm,.slice (some ⟨wr.heap.size,0,none⟩) 1 1] 63):=⟨_,rfl⟩
 have hB23:Below W2.heap.size W2 W3:=by rw[hW3];exact(zzd _ _).alloc (zzb _) _
 have hB3:Below wr.heap.size wr W3:=hB2.trans (hB23.mono hB2.size)
 have hc:=two_cells W2 (.string nm) (.slice (some ⟨wr.heap.size,0,none⟩) 1 1) 63
 rw[<-hW3] at hc ⊢
 have hBw:Below w.heap.size w W3:=hB.trans (hB3.mono hB.size)
 obtain⟨g', cap', Z,h1,h2,h3⟩:=(h.below hB3).put (nm,some ⟨wr.heap.size,0,none⟩,1,[(i:Int)+1]) ⟨hi2.below hB23,fun _ a ha=>by cases ha;exact .inr ⟨_,_,(hB23.block wr.heap.size oo).trans m2⟩⟩ oo hBw.size W2.heap.size hc
 exact⟨g', cap', Z,h1,h2,hBw.grown h3 hBw.size (fun k e=>owned_base h.row e)⟩
theorem nmr_group {w wr:World}{v:Value}{xs:List GrpD}{x:Grp}{ta:Option Addr}{tl tc:Nat}(h:NmR w.heap.size wr v xs)(hlen:xs.length<=100)(hB:Below w.heap.size w wr)(hx:Ints w ta tl x.2) :
  ∃g' cap' W1,(Builtin.append_ #[39,39] 39 #[v,.slice (some ⟨wr.heap.size,0,none⟩) 1 1]).run Tryz.prog (wr.alloc (.cells #[.string x.1,.slice ta tl tc] 63))=.ok (.slice (some ⟨g', 0,none⟩) (xs.length+1) cap') W1/\NmR w.heap.size W1 (.slice (some ⟨g', 0,none⟩) (xs.length+1) cap') (xs++[(x.1,ta,tc,x.2)])/\Below w.heap.size w W1:=by
 have hB3:Below wr.heap.size wr (wr.alloc (.cells #[.string x.1,.slice ta tl tc] 63)):=(zzd _ _).alloc (zzb _) _
 have hBw:Below w.heap.size w (wr.alloc (.cells #[.string x.1,.slice ta tl tc] 63)):=hB.trans (hB3.mono hB.size)
 have hxl:x.2.length=tl:=hx.1
 have ht:TyAt w.heap.size (wr.alloc (.cells #[.string x.1,.slice ta tl tc] 63)) (x.1,ta,tc,x.2):=by
  refine⟨?_,fun h0 a ha=>?_⟩
  ·show Ints _ ta x.2.length x.2
   rw[hxl];exact hx.below hBw
  ·have h0' : tl≠0:=by rw[<-hxl];exact h0
   have ha' : ta=some a:=ha;rcases hx.2.2 with h1 | ⟨b,o,h1,h2,_⟩
   ·exact absurd h1 h0'
   ·rw[h1] at ha'
    cases ha';exact .inl h2
 have hc:=two_cells wr (.string x.1) (.slice ta tl tc) 63
 obtain⟨g', cap', Z,h1,h2,h3⟩:=(h.below hB3).put (x.1,ta,tc,x.2) ht oo hBw.size wr.heap.size (by unfold grpC;dsimp only;rw[hxl];exact hc)
 exact⟨g', cap', Z,h1,h2,hBw.grown h3 hBw.size (fun k e=>owned_base h.row e)⟩
def NA (B Eb:Nat)(ev:Value)(b:Nat):Prop:=b≠B/\b≠Eb/\ev.ownBlock≠some b
def schC (r:Raw)(lv ev gv:Value):Array Value:=#[.int .i64 r.1,.string r.2.1,.slice r.2.2.1 r.2.2.2.1 r.2.2.2.2,lv,ev,gv]
def rawA (r:Raw):Array Value:=#[.int .i64 r.1,.string r.2.1,.slice r.2.2.1 r.2.2.2.1 r.2.2.2.2]
structure NwI (W1:World) (B Eb:Nat) (tr:Raw) (Tw:DataW Unit) (lv gv:Value) (es:List ByteArray) (wr:World) (j:Nat) (ev:Value) (rs:List Raw) (er:Raw):Prop where
 bel:Below W1.heap.size W1 wr
 B0:B=W1.heap.size
 Eb0:W1.heap.size<Eb
 blk:wr.heap[B]? = some (.cells (schC tr lv ev gv) 71 (0,0))
 eb:wr.heap[Eb]? = some (.cells (rawA er) 69 (0,0))
 own:wr.ownsRow W1.heap.size 69 3 ev j (rawC rs)
 len:rs.length=j
 apart:ev.ownBlock≠some Eb
 whole:ExA (NA B Eb ev) wr 200 Tw (rawV tr)
 trees:∀(i:Nat) (s:ByteArray) (r:Raw),es[i]? = some s->rs[i]? = some r->ExA (NA B Eb ev) wr 200 (outTree s) (rawV r)
theorem NwI.ownB {W1:World}{B Eb:Nat}{tr:Raw}{Tw:DataW Unit}{lv gv:Value}{es:List ByteArray}{wr:World}{j:Nat}{ev:Value}{rs:List Raw}{er:Raw}(h:NwI W1 B Eb tr Tw lv gv es wr j ev rs er):ev.ownBlock≠some B:=fun e=>by
 obtain⟨_,cur,hcur⟩:=owns_lt h.own e
 rw[h.blk] at hcur
 injection hcur with hk
 injection hk with _ h2 _
 exact absurd h2 (by decide)
theorem NwI.below {W1:World}{B Eb:Nat}{tr:Raw}{Tw:DataW Unit}{lv gv:Value}{es:List ByteArray}{wr:World}{j:Nat}{ev:Value}{rs:List Raw}{er:Raw}(h:NwI W1 B Eb tr Tw lv gv es wr j ev rs er){X:World}(hX:Below wr.heap.size wr X):NwI W1 B Eb tr Tw lv gv es X j ev rs er :=
 ⟨h.bel.trans (hX.mono h.bel.size),h.B0,h.Eb0,(hX.block _ (zza.1 h.blk).1).trans h.blk,(hX.block _ (zza.1 h.eb).1).trans h.eb,owns_same h.own fun g hg=>hX.block g (owns_lt h.own hg).1,h.len,h.apart,ExA.kept hX.size (fun b hb hA=>⟨hA,hX.block b hb⟩) _ _ _ h.whole,fun i s r hs hr=>ExA.kept hX.size (fun b hb hA=>⟨hA,hX.block b hb⟩) _ _ _ (h.trees i s r hs hr)⟩
theorem NwI.put {W1:World}{B Eb:Nat}{tr:Raw}{Tw:DataW Unit}{lv gv:Value}{es:List ByteArray}{wr:World}{j:Nat}{ev:Value}{rs:List Raw}{er:Raw}(h:NwI W1 B Eb tr Tw lv gv es wr j ev rs er)(r:Raw):NwI W1 B Eb tr Tw lv gv es (wr.setRow Eb (rawA r)) j ev rs r:=by
 have hne:B≠Eb:=by have:=h.B0;have:=h.Eb0;omega
 have oth:∀k,k≠Eb->(wr.setRow Eb (rawA r)).heap[k]? = wr.heap[k]? := fun k hk=>setRow_other _ _ _ _ (fun e=>hk e)
 refine⟨below_setRow h.bel (Nat.le_of_lt h.Eb0) _,h.B0,h.Eb0,(oth B hne).trans h.blk,setRow_heap _ _ _ _ _ _ h.eb,owns_same h.own fun g hg=>oth g (fun e=>h.apart (by rw[hg,e])),h.len,h.apart,ExA.kept (by rw[size_setRow];exact zzb _) (fun b hb hA=>⟨hA,oth b hA.2.1⟩) _ _ _ h.whole,fun i s q hs hr=>ExA.kept (by rw[size_setRow];exact zzb _) (fun b hb hA=>⟨hA,oth b hA.2.1⟩) _ _ _ (h.trees i s q hs hr)⟩
theorem set_last3 (xs:List Value)(p q r a b c:Value)(n:Nat)(hn:xs.length=n):(((xs++[p,q,r]).set n a).set (n+1) b).set (n+2) c=xs++[a,b,c]:=by
 subst hn
 induction xs with
 | nil=>rfl
 | cons x s ih=>simp only[List.cons_append,List.length_cons,Nat.add_right_comm _ 1,List.set_cons_succ,ih]
theorem infoExp:(Tryz.prog.info? 69).map (fun i=>(i.zero,i.size,i.bytes))=some (some (.agg #[.int .i64 0,.string ⟨#[]⟩,.slice none 0 0]),3,48):=by kernel_rfl
theorem three_cells (w:World)(x0 x1 x2:Value)(t:TypeId):∀j u,[x0,x1,x2][j]? = some u->(w.alloc (.cells #[x0,x1,x2] t)).cell? ((⟨w.heap.size,0,none⟩:Addr).add j)=some u:=by
 exact k46
structure NwS (W1:World) (B Eb:Nat) (tr:Raw) (lv gv v0:Value) (Y2:World) (j g' c' : Nat) (Y:World) (L:List Value) (ev:Value):Prop where
 own:Y.ownsRow W1.heap.size 69 3 (.slice (some ⟨g', 0,none⟩) (j+1) c') (j+1) L
 blk:Y.heap[B]? = some (.cells (schC tr lv ev gv) 71 (0,0))
 oth:∀k,k≠B->k≠g' -> Y.heap[k]? = Y2.heap[k]?
 size:Y.heap.size=Y2.heap.size
 os:Y.os=Y2.os
 tape:Y.tape=Y2.tape
 output:Y.output=Y2.output
theorem NwS.apart {W1:World}{B Eb:Nat}{tr:Raw}{lv gv v0:Value}{Y2:World}{j g' c' : Nat}{Y:World}{L:List Value}{ev:Value}(h:NwS W1 B Eb tr lv gv v0 Y2 j g' c' Y L ev):g' ≠ B:=fun e=>by
 obtain⟨_,cur,hcur⟩:=owns_lt h.own (g:=g') rfl
 rw[e,h.blk] at hcur
 injection hcur with hk
 injection hk with _ h2 _
 exact absurd h2 (by decide)
theorem NwS.elem {W1:World}{B Eb:Nat}{tr:Raw}{lv gv v0:Value}{Y2:World}{j g' c' : Nat}{Y:World}{L:List Value}{ev:Value}(h:NwS W1 B Eb tr lv gv v0 Y2 j g' c' Y L ev)(q:Nat)(hq:q<(j+1) * 3)(u:Value):(∃x,Y.cell? ⟨g', q,none⟩=some x)/\Y.frozen? ⟨g', q,none⟩=false/\NwS W1 B Eb tr lv gv v0 Y2 j g' c' (Y.setCell ⟨g', q,none⟩ u) (L.set q u) ev:=by
 have hne:=h.apart
 obtain⟨_,cur,hcur⟩:=owns_lt h.own (g:=g') rfl
 obtain⟨g2,c2,e,hc⟩:=owns_cell h.own oo
 injection e with e1
 injection e1 with e1
 injection e1 with e1
 subst e1
 refine⟨⟨_,hc q _ (zze (by rw[h.own.1];exact hq))⟩,by simp[World.frozen?,hcur],row_setb h.own q u,?_,fun k h1 h2=>?_,?_,h.os,h.tape,h.output⟩
 ·exact(zzh Y _ u B (fun e=>hne e.symm)).trans h.blk
 ·exact(zzh Y _ u k (fun e=>h2 e)).trans (h.oth k h1 h2)
 ·exact(by simp:(Y.setCell ⟨g', q,none⟩ u).heap.size=Y.heap.size).trans h.size
theorem NwS.slot {W1:World}{B Eb:Nat}{tr:Raw}{lv gv v0:Value}{Y2:World}{j g' c' : Nat}{Y:World}{L:List Value}{ev:Value}(h:NwS W1 B Eb tr lv gv v0 Y2 j g' c' Y L ev)(u:Value):Y.cell? ⟨B,4,none⟩=some ev/\Y.frozen? ⟨B,4,none⟩=false/\NwS W1 B Eb tr lv gv v0 Y2 j g' c' (Y.setCell ⟨B,4,none⟩ u) L u:=by
 have hne:=h.apart
 refine⟨cell_of_row Y B 4 _ _ _ h.blk,by simp[World.frozen?,h.blk],owns_same h.own fun g hg=>?_,?_,fun k h1 h2=>?_,?_,h.os,h.tape,h.output⟩
 ·have:g=g' := by cases hg;rfl
  subst this;exact zzh Y _ u g (fun e=>hne e)
 ·have:=heap_setCell_same Y B 4 _ _ u h.blk
  exact this
 ·exact(zzh Y _ u k (fun e=>h1 e)).trans (h.oth k h1 h2)
 ·exact(by simp:(Y.setCell ⟨B,4,none⟩ u).heap.size=Y.heap.size).trans h.size
theorem NwS.three {W1:World}{B Eb:Nat}{tr:Raw}{lv gv v0:Value}{Y2:World}{j g' c' : Nat}{Y:World}{L:List Value}{ev:Value}(h:NwS W1 B Eb tr lv gv v0 Y2 j g' c' Y L ev)(a b c:Value):((∃x,Y.cell? ⟨g', j * 3,none⟩=some x)/\Y.frozen? ⟨g', j * 3,none⟩=false)/\((∃x,(Y.setCell ⟨g', j * 3,none⟩ a).cell? ⟨g', j * 3+1,none⟩=some x)/\(Y.setCell ⟨g', j * 3,none⟩ a).frozen? ⟨g', j * 3+1,none⟩=false)/\((∃x,((Y.setCell ⟨g', j * 3,none⟩ a).setCell ⟨g', j * 3+1,none⟩ b).cell? ⟨g', j * 3+2,none⟩=some x)/\((Y.setCell ⟨g', j * 3,none⟩ a).setCell ⟨g', j * 3+1,none⟩ b).frozen? ⟨g', j * 3+2,none⟩=false)/\NwS W1 B Eb tr lv gv v0 Y2 j g' c' (((Y.setCell ⟨g', j * 3,none⟩ a).setCell ⟨g', j * 3+1,none⟩ b).setCell ⟨g', j * 3+2,none⟩ c) (((L.set (j * 3) a).set (j * 3+1) b).set (j * 3+2) c) ev:=by
 obtain⟨e0,f0,s0⟩:=h.elem (j * 3) oo a
 obtain⟨e1,f1,s1⟩:=s0.elem (j * 3+1) oo b
 obtain⟨e2,f2,s2⟩:=s1.elem (j * 3+2) oo c
 exact⟨⟨e0,f0⟩,⟨e1,f1⟩,⟨e2,f2⟩,s2⟩
theorem NwI.grow {W1:World}{B Eb:Nat}{tr:Raw}{Tw:DataW Unit}{lv gv:Value}{es:List ByteArray}{wr:World}{j:Nat}{ev:Value}{rs:List Raw}{er:Raw}(h:NwI W1 B Eb tr Tw lv gv es wr j ev rs er)(hj:j<=100) :
  ∃g' c' Y2,(Builtin.append_ #[67,67] 67 #[ev,.slice (some ⟨wr.heap.size,0,none⟩) 1 1]).run Tryz.prog (wr.alloc (.cells #[.int .i64 0,.string ⟨#[]⟩,.slice none 0 0] 69))=.ok (.slice (some ⟨g', 0,none⟩) (j+1) c') Y2 ∧
   NwS W1 B Eb tr lv gv ev Y2 j g' c' Y2 (rawC rs++[.int .i64 0,.string ⟨#[]⟩,.slice none 0 0]) ev ∧
   (∀(Z:World) (s:ByteArray),es[j]? = some s->(∃lo,lo<=wr.heap.size/\Eb<lo/\(∀g,ev.ownBlock=some g->g<lo)/\ExA (fun b=>lo<=b) wr 200 (outTree s) (rawV er))->NwS W1 B Eb tr lv gv ev Y2 j g' c' Z (rawC (rs++[er])) (.slice (some ⟨g', 0,none⟩) (j+1) c')->NwI W1 B Eb tr Tw lv gv es Z (j+1) (.slice (some ⟨g', 0,none⟩) (j+1) c') (rs++[er]) er) ∧
   (∀(Z:World) (L:List Value) (u:Value),NwS W1 B Eb tr lv gv ev Y2 j g' c' Z L u->Z.heap[Eb]? = some (.cells (rawA er) 69 (0,0))):=by
 have hBa:Below wr.heap.size wr (wr.alloc (.cells #[.int .i64 0,.string ⟨#[]⟩,.slice none 0 0] 69)):=(zzd _ _).alloc (zzb _) _
 have hI:=h.below hBa
 obtain⟨i0,hi,hz0,hz1,hz2⟩:=info_parts infoExp
 obtain⟨v', Y2,hrun,r1,r2,_,r4⟩:=run_append_own_at (P:=Tryz.prog) (wr.alloc (.cells #[.int .i64 0,.string ⟨#[]⟩,.slice none 0 0] 69)) W1.heap.size 67 67 69 i0 _ 3 48 Tryz.underlying67 hi hz0 hz1 hz2 rfl (by decide) ev j _ hI.own ⟨wr.heap.size,0,none⟩ 1 1 [.int .i64 0,.string ⟨#[]⟩,.slice none 0 0] rfl (three_cells wr _ _ _ _) (fun u hu=>by
  simp only[List.mem_cons,List.not_mem_nil,or_false] at hu
  rcases hu with rfl | rfl | rfl<;>rfl) (by unfold maxLen;omega) oo hI.bel.size
 obtain⟨g', c', rfl,_⟩:=owns_cell r1 (Nat.succ_pos _)
 have hgB:ev.ownBlock≠some B:=hI.ownB
 have hblk:Y2.heap[B]? = some (.cells (schC tr lv ev gv) 71 (0,0)):=(r2.block B (zza.1 hI.blk).1 (fun e=>hgB e.symm)).trans hI.blk
 have r4' : some g' = ev.ownBlock\/some g' = some (wr.alloc (.cells #[.int .i64 0,.string ⟨#[]⟩,.slice none 0 0] 69)).heap.size:=r4
 have hne:B≠Eb:=by have:=h.B0;have:=h.Eb0;omega
 have hgE:g' ≠ Eb:=fun e=>by
  rcases r4' with h1 | h1
  ·exact h.apart (by rw[<-h1,e])
  ·have h2:g' = (wr.alloc (.cells #[.int .i64 0,.string ⟨#[]⟩,.slice none 0 0] 69)).heap.size:=zzo h1
   have:=(zza.1 hI.eb).1
   omega
 have heb:∀(Z:World) (L:List Value) (u:Value),NwS W1 B Eb tr lv gv ev Y2 j g' c' Z L u->Z.heap[Eb]? = some (.cells (rawA er) 69 (0,0)):=fun Z L u hZ=>(hZ.oth Eb (fun e=>hne e.symm) (fun e=>hgE e.symm)).trans ((r2.block Eb (zza.1 hI.eb).1 (fun e=>h.apart e.symm)).trans hI.eb)
 refine⟨g', c', Y2,hrun,⟨r1,hblk,fun _ _ _=>rfl,rfl,rfl,rfl,rfl⟩,fun Z s hs hex hZ=>?_,heb⟩
 obtain⟨lo,lo1,lo2,lo3,hex⟩:=hex
 have hsz:wr.heap.size<=Y2.heap.size:=Nat.le_trans hBa.size r2.size
 have hbY:Below W1.heap.size W1 Y2:=hI.bel.grown r2 hI.bel.size (fun k e=>owned_base hI.own e)
 have hg1:W1.heap.size<=g' := owned_base hZ.own rfl
 -- what is none of New's own blocks is as it was
 have same:∀b,b<wr.heap.size->NA B Eb ev b->b≠g' /\ Z.heap[b]? = wr.heap[b]? := fun b hb hA=>by
  have h2:b≠g' := fun e=>by
   rcases r4' with h1 | h1
   ·exact hA.2.2 (by rw[<-h1,e])
   ·have h2:g' = (wr.alloc (.cells #[.int .i64 0,.string ⟨#[]⟩,.slice none 0 0] 69)).heap.size:=zzo h1
    rw[World.size_alloc] at h2;omega
  refine⟨h2,(hZ.oth b hA.1 h2).trans ((r2.block b (zzl hb hBa.size) (fun e=>hA.2.2 e.symm)).trans (hBa.block b hb))⟩
 have keep:∀(t:DataW Unit) (v:Value),ExA (NA B Eb ev) wr 200 t v->ExA (NA B Eb (.slice (some ⟨g', 0,none⟩) (j+1) c')) Z 200 t v:=fun t v hx=>ExA.kept (by rw[hZ.size];exact hsz) (fun b hb hA=>⟨⟨hA.1,hA.2.1,fun e=>(same b hb hA).1 (zzo e).symm⟩,(same b hb hA).2⟩) _ _ _ hx
 have hlen:=h.len
 refine⟨⟨hZ.os.trans hbY.os,hZ.tape.trans hbY.tape,hZ.output.trans hbY.output,by rw[hZ.size];exact hbY.size,fun k hk=>(hZ.oth k (by have:=h.B0;omega) oo).trans (hbY.block k hk)⟩,h.B0,h.Eb0,hZ.blk,?_,hZ.own,by rw[List.length_append,hlen];rfl,fun e=>hgE (zzo e),keep _ _ h.whole,fun i s' r hs' hr=>?_⟩
 ·exact heb Z _ _ hZ
 ·rcases Nat.lt_or_ge i j with h1 | h1
  ·rw[List.getElem?_append_left oo] at hr
   exact keep _ _ (h.trees i s' r hs' hr)
  ·have hij:i=j:=by
    have:=(zzc.1 hr).1
    rw[List.length_append,List.length_singleton] at this;omega
   subst hij;rw[List.getElem?_append_right oo,hlen,Nat.sub_self] at hr;cases hr;rw[hs] at hs';cases hs';refine keep _ _ (ExA.mono (fun b hb hA=>⟨?_,?_,fun e=>?_⟩) hex)
   ·have:=h.B0;have:=h.Eb0;omega
   ·omega
   ·have:=lo3 b e;omega
def NwF (W1 X2:World)(tr:Raw)(Tw:DataW Unit)(lv gv:Value)(es:List ByteArray):Prop :=
 ((X2.alloc (.cells (rawA tr) 69)).cell? ⟨X2.heap.size,0,none⟩=some (.int .i64 tr.1)/\(X2.alloc (.cells (rawA tr) 69)).cell? ⟨X2.heap.size,1,none⟩=some (.string tr.2.1)/\(X2.alloc (.cells (rawA tr) 69)).cell? ⟨X2.heap.size,2,none⟩=some (.slice tr.2.2.1 tr.2.2.2.1 tr.2.2.2.2)) ∧
 (∃u,(X2.alloc (.cells (rawA tr) 69)).cell? ⟨W1.heap.size,0,none⟩=some u/\(X2.alloc (.cells (rawA tr) 69)).frozen? ⟨W1.heap.size,0,none⟩=false) ∧
 (∃u,((X2.alloc (.cells (rawA tr) 69)).setCell ⟨W1.heap.size,0,none⟩ (.int .i64 tr.1)).cell? ⟨W1.heap.size,1,none⟩=some u/\((X2.alloc (.cells (rawA tr) 69)).setCell ⟨W1.heap.size,0,none⟩ (.int .i64 tr.1)).frozen? ⟨W1.heap.size,1,none⟩=false) ∧
 (∃u,(((X2.alloc (.cells (rawA tr) 69)).setCell ⟨W1.heap.size,0,none⟩ (.int .i64 tr.1)).setCell ⟨W1.heap.size,1,none⟩ (.string tr.2.1)).cell? ⟨W1.heap.size,2,none⟩=some u/\(((X2.alloc (.cells (rawA tr) 69)).setCell ⟨W1.heap.size,0,none⟩ (.int .i64 tr.1)).setCell ⟨W1.heap.size,1,none⟩ (.string tr.2.1)).frozen? ⟨W1.heap.size,2,none⟩=false) ∧
 NwI W1 W1.heap.size X2.heap.size tr Tw lv gv es ((((X2.alloc (.cells (rawA tr) 69)).setCell ⟨W1.heap.size,0,none⟩ (.int .i64 tr.1)).setCell ⟨W1.heap.size,1,none⟩ (.string tr.2.1)).setCell ⟨W1.heap.size,2,none⟩ (.slice tr.2.2.1 tr.2.2.2.1 tr.2.2.2.2)) 0 (.slice none 0 0) [] tr
theorem nw_start {W1 X2:World}{tr:Raw}{Tw:DataW Unit}{lv gv:Value}{es:List ByteArray}(hB2:Below (W1.alloc (.cells #[.int .i64 0,.string ⟨#[]⟩,.slice none 0 0,lv,.slice none 0 0,gv] 71)).heap.size (W1.alloc (.cells #[.int .i64 0,.string ⟨#[]⟩,.slice none 0 0,lv,.slice none 0 0,gv] 71)) X2)(hT:ExA (fun b=>(W1.alloc (.cells #[.int .i64 0,.string ⟨#[]⟩,.slice none 0 0,lv,.slice none 0 0,gv] 71)).heap.size<=b) X2 200 Tw (rawV tr)):NwF W1 X2 tr Tw lv gv es:=by
 obtain⟨X1,hX1⟩:∃X1,X1=W1.alloc (.cells #[.int .i64 0,.string ⟨#[]⟩,.slice none 0 0,lv,.slice none 0 0,gv] 71):=⟨_,rfl⟩
 have s1:X1.heap.size=W1.heap.size+1:=by rw[hX1,World.size_alloc]
 have hB1:Below W1.heap.size W1 X1:=by rw[hX1];exact(zzd _ _).alloc (zzb _) _
 have m1:X1.heap[W1.heap.size]? = some (.cells #[.int .i64 0,.string ⟨#[]⟩,.slice none 0 0,lv,.slice none 0 0,gv] 71 (0,0)):=by rw[hX1];exact World.alloc_heap_new W1 _
 rw[<-hX1] at hB2 hT
 clear hX1
 obtain⟨X3,hX3⟩:∃X3,X3=X2.alloc (.cells (rawA tr) 69):=⟨_,rfl⟩
 have hB23:Below X2.heap.size X2 X3:=by rw[hX3];exact(zzd _ _).alloc (zzb _) _
 have m3:X3.heap[X2.heap.size]? = some (.cells (rawA tr) 69 (0,0)):=by rw[hX3];exact World.alloc_heap_new X2 _
 have hsz:=hB2.size
 have hsz2:=hB23.size
 have b3:X3.heap[W1.heap.size]? = some (.cells #[.int .i64 0,.string ⟨#[]⟩,.slice none 0 0,lv,.slice none 0 0,gv] 71 (0,0)):=(hB23.block _ oo).trans ((hB2.block _ oo).trans m1)
 unfold NwF
 rw[<-hX3]
 have hB3:Below W1.heap.size W1 X3:=hB1.trans ((hB2.trans (hB23.mono hB2.size)).mono hB1.size)
 have hT3:ExA (fun b=>X1.heap.size<=b/\b<X2.heap.size) X3 200 Tw (rawV tr):=ExA.kept hB23.size (fun b hb hA=>⟨⟨hA,hb⟩,hB23.block b hb⟩) _ _ _ hT
 have hc3:=fun j=>cell_of_row X3 X2.heap.size j _ _ _ m3
 have b4:=heap_setCell_same X3 W1.heap.size 0 _ _ (.int .i64 tr.1) b3
 have b5:=heap_setCell_same _ W1.heap.size 1 _ _ (.string tr.2.1) b4
 have b6:=heap_setCell_same _ W1.heap.size 2 _ _ (.slice tr.2.2.1 tr.2.2.2.1 tr.2.2.2.2) b5
 have oth:∀k,k≠W1.heap.size->(((X3.setCell ⟨W1.heap.size,0,none⟩ (.int .i64 tr.1)).setCell ⟨W1.heap.size,1,none⟩ (.string tr.2.1)).setCell ⟨W1.heap.size,2,none⟩ (.slice tr.2.2.1 tr.2.2.2.1 tr.2.2.2.2)).heap[k]? = X3.heap[k]? := fun k hk=>by
  rw[zzh _ _ _ k (fun e=>hk e),zzh _ _ _ k (fun e=>hk e),zzh _ _ _ k (fun e=>hk e)]
 have osz:(((X3.setCell ⟨W1.heap.size,0,none⟩ (.int .i64 tr.1)).setCell ⟨W1.heap.size,1,none⟩ (.string tr.2.1)).setCell ⟨W1.heap.size,2,none⟩ (.slice tr.2.2.1 tr.2.2.2.1 tr.2.2.2.2)).heap.size=X3.heap.size:=by simp
 refine⟨⟨hc3 0,hc3 1,hc3 2⟩,⟨_,cell_of_row X3 _ 0 _ _ _ b3,by simp[World.frozen?,b3]⟩,⟨_,cell_of_row _ _ 1 _ _ _ b4,by simp only[World.frozen?,b4];rfl⟩,⟨_,cell_of_row _ _ 2 _ _ _ b5,by simp only[World.frozen?,b5];rfl⟩,⟨hB3.os,hB3.tape,hB3.output,by rw[osz];exact hB3.size,fun k hk=>(oth k oo).trans (hB3.block k hk)⟩,rfl,oo,b6,(oth _ oo).trans m3,World.ownsRow_nil ..,rfl,(fun e=>by cases e),?_,(fun i s r _ hr=>by simp at hr)⟩
 exact ExA.kept (by rw[osz];exact zzb _) (fun b hb hA=>⟨⟨oo,oo,(fun e=>by cases e)⟩,oth b oo⟩) _ _ _ hT3
end Go.Proofs.YtjkebndkeamijaaGreatDoor
