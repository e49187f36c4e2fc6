/-
  PROVED HERE: what the texts DFWordFt, DFFaultI, DFFirstF say.
-/
import Derived.Test.YtjkebndkeamijaaGreatDoorCF33
set_option maxRecDepth 100000
set_option maxHeartbeats 2000000
namespace Go.Proofs.YtjkebndkeamijaaGreatDoor
open Go.RowKit
theorem long_uniq {gs:List Grp}{n:Nat}{t:DataW Unit}{zs:List Int}{i j:Nat}(h:LongD gs n t zs i)(h' : LongD gs n t zs j):i=j:=by
 have key:∀{i j:Nat},LongD gs n t zs i->LongD gs n t zs j->j<=i:=fun {i j} h h' => by
  rcases Nat.lt_or_ge i j with hlt | hge
  ·exfalso
   have hp:=h'.2.1
   have e:zs.take j=zs.take (i+1)++(zs.take j).drop (i+1):=by
    have:=(List.take_append_drop (i+1) (zs.take j)).symm
    rw[List.take_take,Nat.min_eq_left oo] at this;exact this
   rw[e] at hp;exact h.2.2 (by have:=h'.1;omega) (pre_less hp)
  ·exact hge
 exact Nat.le_antisymm (key h' h) (key h h')
noncomputable def begN (gs:List Grp)(t:DataW Unit)(zs:List Int):Nat:=Classical.epsilon (LongD gs 200 t zs)
theorem begN_eq {gs:List Grp}{t:DataW Unit}{zs:List Int}{i:Nat}(h:LongD gs 200 t zs i):begN gs t zs=i:=long_uniq (Classical.epsilon_spec ⟨i,h⟩) h
noncomputable def wordF (gs:List Grp)(t:DataW Unit)(l:List Tok)(i:Int)(ps:List Int):Int :=
 open Classical in
 if LangD gs 200 t (wordD l ps) then 2049
 else if begN gs t (wordD l ps)<ps.length then ps.getD (begN gs t (wordD l ps)) 0
 else if i = -1 then l.length else partner l i
theorem row_setRow {X:World}{N b n:Nat}{v:Value}{xs:List Value}{old cs:Array Value}{f:Nat×Nat}(h:X.ownsRow b 3 1 v n xs)(m:X.heap[N]? = some (.cells old 69 f)):(X.setRow N cs).ownsRow b 3 1 v n xs:=by
 refine owns_same h fun k hk=>?_
 obtain⟨_,cur,hcur⟩:=owns_lt h hk
 refine setRow_other _ _ _ _ (fun e=>?_)
 subst e
 rw[m] at hcur
 injection hcur with hk
 injection hk with _ h2 _
 exact absurd h2 (by decide)
theorem k02{p:Prop}(h:p:=by
  clear m7 hN;clear hK K
  try simp only[Act.put,List.setIfInBounds_toArray]
  refine takeF 12 (some 10) (v:=?_) hV ?_ ?_
  rotate_left
  ·intro w hSw
   try go_simp
   with_reducible rfl
  try simp only[Act.put]
  refine wpAnyH_done kr ?_ _
  have HCV:Hid (∀X,Below V.heap.size V X->(X.cell? ⟨N,0,none⟩=some (.int .i64 tk)/\X.cell? ⟨N,1,none⟩=some (.string tn)/\X.cell? ⟨N,2,none⟩=some (.slice ta tl tc))/\X.cell? ⟨B,1,none⟩=some (.slice (some ⟨ng,0,none⟩) gl nc)):=fun X hX=>by
   have mX:=(hX.block _ (zza.1 mV).1).trans mV;(have hc:=fun j=>cell_of_row X N j _ _ _ mX);exact⟨⟨hc 0,hc 1,hc 2⟩,HSC.out X (hV.trans (hX.mono hV.size))⟩
  have HQI:Hid (∀X,Below V.heap.size V X->Ints X wa kl zs):=fun X hX=>by
   obtain⟨a', c', e,hi⟩:=owned_ints HQ.out oo;(injection e with e1);subst e1;exact hi.below hX
  clear HQ mV HTC HKA HWO HSC;(go_wp2_with fail);refine wp_region_held_drew (S:=fun X=>Below V.heap.size V X) hmx (zzd _ _).drew (fun hS2=>?_);refine takeF 0 (some 22) (v:=?_) hS2 ?_ ?_
  rotate_left
  ·intro w hSw
   obtain⟨⟨q0,q1,q2⟩,q3⟩:=HCV.out _ hSw;go_simp
   with_reducible rfl
  try simp only[lay4]
  refine takeG 1 (some 23) hS2 ?_;refine takeG 2 (some 24) hS2 ?_;refine takeG 3 (some 25) hS2 ?_;refine takeG 4 (some 26) hS2 ?_ (hy:=by intro w hSw;obtain⟨⟨q0,q1,q2⟩,q3⟩:=HCV.out _ hSw;go_simp;with_reducible rfl);refine takeG 5 (some 27) hS2 ?_;refine callD 6 kr rfl (fun K hK=>?_);rw[if_pos (by rfl)];go_simp;refine(HAC.out _ wa wc (hV.trans (hS2.mono hV.size)) (HQI.out _ hS2)).mono ?_;rintro e Y ⟨b,rfl,hb,bY⟩;have hY:=hS2.trans (bY.mono hS2.size);clear bY;refine hK.out _ _ hY (fun _=>?_);clear hK K
  try simp only[lay4]
  refine wpAnyH_done kr ?_ _;have HE:=Hid.mk_ (hV.trans (hY.mono hV.size));have HBB:=Hid.mk_ hb;clear hb;cases b with
  | true=>
   have HRR:=Hid.mk_ (HF1.out (HBB.out.1 (by first | rfl | trivial)));clear HCV HQI;go_wp2;go_ret;exact⟨by rw[HRR.out];rfl,HE.out⟩
  | false=>
   (go_wp2_with fail);refine wp_region_held_drew (S:=fun X=>Below V.heap.size V X) hmx hY.drew (fun hS4=>?_);refine takeG 0 (some 29) hS4 ?_ (hy:=by intro w hSw;obtain⟨⟨q0,q1,q2⟩,q3⟩:=HCV.out _ hSw;go_simp;with_reducible rfl);refine takeG 1 (some 30) hS4 ?_;refine takeG 2 (some 31) hS4 ?_;refine takeG 3 (some 32) hS4 ?_;refine takeG 4 (some 33) hS4 ?_ (hy:=by intro w hSw;obtain⟨⟨q0,q1,q2⟩,q3⟩:=HCV.out _ hSw;go_simp;with_reducible rfl);refine takeG 5 (some 34) hS4 ?_;refine callD 6 kr rfl (fun K hK=>?_);rw[if_pos (by rfl)];go_simp;refine(HBE.out _ wa wc (hV.trans (hS4.mono hV.size)) (HQI.out _ hS4)).mono ?_;rintro e Y2 ⟨n,rfl,hn,bY⟩;have hY2:=hS4.trans (bY.mono hS4.size);clear bY;refine hK.out _ _ hY2 (fun _=>?_);clear hK K
   try simp only[lay4]
   refine takeG 7 (some 11) hY2 ?_;refine wpAnyH_done kr ?_ _;have HE2:=Hid.mk_ (hV.trans (hY2.mono hV.size));have HV2:=Hid.mk_ hV;clear hY2 hV hY HCV HQI HAC HBE
   by_cases dn:n<kl
   ·obtain⟨b', o', p,rfl,hp,c9⟩:=HKP.out Y2 HE2.out n dn
    (have hni:(n:Int)<(kl:Int):=by omega);(have hn0:(0:Int)<=(n:Int):=by omega);(have hdn:decide ((n:Int)<(kl:Int))=true:=by simpa using hni);have HRR:=Hid.mk_ (HF2.out (fun h=>by cases HBB.out.2 h) n hn p dn hp);clear HKP;go_wp2;go_ret;exact⟨by rw[HRR.out];rfl,HE2.out⟩
   ·have hdn:decide ((n:Int)<(kl:Int))=false:=by simp;omega
    clear HKP
    by_cases di:i = -1
    ·have HRR:=Hid.mk_ (HF3.out (fun h=>by cases HBB.out.2 h) n hn dn di)
     subst di;go_wp2;go_ret;exact⟨by rw[HRR.out];rfl,HE2.out⟩
    ·have hdi:(i == -1)=false:=by simpa using di
     have HRR:=Hid.mk_ (HF4.out (fun h=>by cases HBB.out.2 h) n hn dn di);have HP:=HPA.out Y2 HE2.out;(go_wp2_with fail);refine HP.mono ?_;rintro e Z ⟨rfl,bZ⟩;have HE3:=Hid.mk_ (HE2.out.trans (bZ.mono HE2.out.size));clear bZ HP;go_wp2;go_ret;exact⟨by rw[HRR.out];rfl,HE3.out⟩
  ):p:=h
theorem wordfault_calls {B g c ng nc:Nat}{ks:List KindD}{gs:List Grp}{ts:List (DataW Unit)}(w:World)(h:SchAt w B g c ng nc ks gs ts)(a:Option Addr)(len cap:Nat)(l:List Tok)(hl:Toks w a len l)(hlie:Lies a len cap)(hsz:len<=2048)(i:Int)(kx:Nat)(t:DataW Unit)(ht:ts[kx]? = some t)
  (hka:∀X,Below w.heap.size w X->Calls Tryz.prog 47 #[.pointer (some ⟨B,0,none⟩),.slice a len cap,.int .i64 i] X fun e w' => e=.returned (.pointer (some ⟨g,kx * 10,none⟩))/\Below X.heap.size X w')
  (ka:Option Addr) (kl kc:Nat) (ps:List Int) (hk:Ints w ka kl ps) (hkl:kl<=5000) (hps:∀p∈ps,0<=p/\p<len) :
  Calls Tryz.prog 106 #[.pointer (some ⟨B,0,none⟩),.slice a len cap,.int .i64 i,.slice ka kl kc] w fun e w' => e=.returned (.int .i64 (wordF gs t l i ps))/\Below w.heap.size w w' := by
 obtain⟨x,hx⟩:∃x,ks[kx]? = some x:=⟨_,zze (by have:=(zzc.1 ht).1;have:=h.len;omega)⟩
 obtain⟨zs,hzs⟩:∃zs,zs=wordD l ps:=⟨_,rfl⟩
 obtain⟨gl,hgl⟩:∃gl,gl=gs.length:=⟨_,rfl⟩
 have HKA:=Hid.mk_ hka
 have HWO:Hid (∀X,Below w.heap.size w X->Calls Tryz.prog 45 #[.slice a len cap,.slice ka kl kc] X fun e w' => ∃wa wc,e=.returned (.slice wa kl wc)/\w'.ownsRow X.heap.size 3 1 (.slice wa kl wc) kl (intsV zs)/\Below X.heap.size X w'):=fun X hX=>by
  rw[hzs];exact wordof_calls a len cap l ka kl kc ps X (hl.below hX) (hk.below hX) hsz hkl hps
 have HPA:Hid (∀X,Below w.heap.size w X->Calls Tryz.prog 135 #[.slice a len cap,.int .i64 i] X fun e w' => e=.returned (.int .i64 (partner l i))/\Below X.heap.size X w'):=fun X hX=>fpartner_calls a len cap l i X (hl.below hX) oo hlie
 have HKP:Hid (∀X,Below w.heap.size w X->∀n,n<kl->∃b o p,ka=some ⟨b,o,none⟩/\ps[n]? = some p/\X.cell? ⟨b,o+n,none⟩=some (.int .i64 p)):=fun X hX n hn=>by
  obtain⟨b,o,p,h1,h2,h3⟩:=hk.at hn;exact⟨b,o,p,h1,h2,h3 X hX⟩
 have HSC:Hid (∀X,Below w.heap.size w X->X.cell? ⟨B,1,none⟩=some (.slice (some ⟨ng,0,none⟩) gl nc)):=fun X hX=>by rw[hgl];exact(h.cells X hX).2
 have hpl:=hk.1
 have hll:=hl.1
 obtain⟨R,hR⟩:∃R,wordF gs t l i ps=R:=⟨_,rfl⟩
 have hR' := hR
 unfold wordF at hR'
 rw[<-hzs] at hR'
 have HF1:Hid (LangD gs 200 t zs->R=2049):=fun h1=>by rw[if_pos h1] at hR';exact hR'.symm
 have HF2:Hid (¬LangD gs 200 t zs->∀n,LongD gs 200 t zs n->∀p,n<kl->ps[n]? = some p->R=p):=fun h1 n hn p h2 hp=>by
  rw[if_neg h1,begN_eq hn,if_pos oo] at hR';rw[<-hR', List.getD_eq_getElem?_getD,hp]
  rfl
 have HF3:Hid (¬LangD gs 200 t zs->∀n,LongD gs 200 t zs n->¬n<kl->i = -1->R=(len:Int)):=fun h1 n hn h2 h3=>by
  rw[if_neg h1,begN_eq hn,if_neg oo,if_pos h3] at hR';rw[<-hR', hll]
 have HF4:Hid (¬LangD gs 200 t zs->∀n,LongD gs 200 t zs n->¬n<kl->i ≠ -1->R=partner l i):=fun h1 n hn h2 h3=>by
  rw[if_neg h1,begN_eq hn,if_neg oo,if_neg h3] at hR';exact hR'.symm
 obtain⟨⟨sp,tk,tn,ta,tl,tc⟩,hxx⟩:∃y,x=y:=⟨_,rfl⟩
 subst hxx
 have HTC:Hid (∀X,Below w.heap.size w X->X.cell? ⟨g,kx * 10+7,none⟩=some (.int .i64 tk)/\X.cell? ⟨g,kx * 10+7+1,none⟩=some (.string tn)/\X.cell? ⟨g,kx * 10+7+2,none⟩=some (.slice ta tl tc)):=fun X hX=>by
  obtain⟨_,h2,h3,h4⟩:=(h.below hX).kinds kx _ hx;exact⟨h2,h3,h4⟩
 obtain⟨hE,hnm,hck⟩:=h.trees kx _ t hx ht
 have HAC:Hid (∀X (wa:Option Addr) (wc:Nat),Below w.heap.size w X->Ints X wa kl zs->Calls Tryz.prog 46 #[.agg #[.int .i64 tk,.string tn,.slice ta tl tc],.slice (some ⟨ng,0,none⟩) gl nc,.slice wa kl wc] X fun e w' => ∃b,e=.returned (.bool b)/\(b=true↔LangD gs 200 t zs)/\Below X.heap.size X w'):=fun X wa wc hX hi=>by
  rw[hgl];refine(accepts_calls 200 t _ (some ⟨ng,0,none⟩) gs.length nc gs wa kl wc zs X (Ex.below hX _ _ _ hE) hnm (h.names.below hX) hi).mono ?_;rintro e w' ⟨b,rfl,h1,h2⟩;exact⟨b,rfl,⟨fun e=>(h1.1 e).2,fun e=>h1.2 ⟨hck,e⟩⟩,h2⟩
 have HBE:Hid (∀X (wa:Option Addr) (wc:Nat),Below w.heap.size w X->Ints X wa kl zs->Calls Tryz.prog 134 #[.agg #[.int .i64 tk,.string tn,.slice ta tl tc],.slice (some ⟨ng,0,none⟩) gl nc,.slice wa kl wc] X fun e w' => ∃n:Nat,e=.returned (.int .i64 (n:Int))/\LongD gs 200 t zs n/\Below X.heap.size X w'):=fun X wa wc hX hi=>by
  rw[hgl];exact begins_calls 200 t _ (some ⟨ng,0,none⟩) gs.length nc gs wa kl wc zs X (Ex.below hX _ _ _ hE) hnm (h.names.below hX) hi hck
 have hli:(len:Int)<=2048:=by omega
 have hki:(kl:Int)<=5000:=by omega
 rw[hR]
 clear h hl hlie hka hk hps hx ht hzs hgl hR hR' hE hnm hck hpl hll
 go_enter Tryz.func106,Tryz.ntmps106
 go_wp2_with fail
 refine wp_region_held_drew (S:=fun X=>Below w.heap.size w X) hmx (zzd _ _).drew (fun hS=>?_)
 generalize w.drew=X0 at hS ⊢
 refine takeG 0 (some 12) hS ?_
 refine takeG 1 (some 13) hS ?_
 refine takeG 2 (some 14) hS ?_
 refine takeG 7 (some 19) hS ?_
 refine takeG 8 (some 20) hS ?_
 refine wpAnyH_ready (rs:=[3,10]) kr (by simp) (AllReadyH.cons rfl (fun K hK=>?_) ( AllReadyH.cons rfl (fun K hK=>?_) (AllReadyH.nil)))
 ·rw[if_pos (by rfl)]
  go_simp;refine(HKA.out _ hS).mono ?_;rintro e X1 ⟨rfl,b1⟩;have hS1:=hS.trans (b1.mono hS.size);clear b1;refine hK.out _ _ hS1 (fun _=>?_);clear hK K
  try simp only[lay4]
  refine takeG 4 (some 16) hS1 ?_;refine takeG 5 (some 17) hS1 ?_;refine takeG 6 (some 18) hS1 ?_ (hy:=by intro w hSw;obtain⟨q0,q1,q2⟩:=HTC.out _ hSw;go_simp;with_reducible rfl);refine wpAnyH_ready (rs:=[9,10]) kr (by simp) (AllReadyH.cons rfl (fun K hK=>?_) ( AllReadyH.cons rfl (fun K hK=>?_) (AllReadyH.nil)))
  ·rw[if_pos (by rfl)]
   go_simp;refine(HWO.out _ hS1).mono ?_;rintro e X2 ⟨wa,wc,rfl,hQ,b2⟩;have hS2:=hS1.trans (b2.mono hS1.size);have HQ:=Hid.mk_ hQ;clear hQ;clear b2;refine hK.out _ _ hS2 (fun _=>?_);clear hK K
   try simp only[lay4]
   refine callD 10 kr rfl (fun K hK=>?_);rw[if_pos (by rfl)];go_simp;have hS3:=hS2.alloc hS2.size (.cells #[.int .i64 0,.string ⟨#[]⟩,.slice none 0 0] 69);have m7:=World.alloc_heap_new X2 (.cells #[.int .i64 0,.string ⟨#[]⟩,.slice none 0 0] 69);have hN:w.heap.size<=(X2).heap.size:=hS2.size;have HQ:=Hid.mk_ (World.ownsRow.alloc HQ.out (.cells #[.int .i64 0,.string ⟨#[]⟩,.slice none 0 0] 69));refine hK.out _ _ hS3 (fun _=>?_);generalize (X2).alloc (.cells #[.int .i64 0,.string ⟨#[]⟩,.slice none 0 0] 69)=X3 at *;clear hK K
   try simp only[lay4]
   refine callD 11 kr rfl (fun K hK=>?_);rw[if_pos (by rfl)];refine wp_store_row 69 _ _ rfl (X2).heap.size #[.int .i64 tk,.string tn,.slice ta tl tc] rfl rfl 69 _ m7 sizeExpr rfl (ones3 ..) ?_;have hV:=below_setRow hS3 hN #[.int .i64 tk,.string tn,.slice ta tl tc];have mV:=setRow_heap _ _ _ #[.int .i64 tk,.string tn,.slice ta tl tc] _ _ m7;have HQ:=Hid.mk_ (row_setRow (cs:=#[.int .i64 tk,.string tn,.slice ta tl tc]) HQ.out m7);refine hK.out _ _ hV (fun _=>?_);generalize World.setRow X3 (X2).heap.size #[.int .i64 tk,.string tn,.slice ta tl tc]=V at *;generalize (X2).heap.size=N at *;exact k02
  ·rw[if_pos (by rfl)]
   go_simp;have hS2:=hS1.alloc hS1.size (.cells #[.int .i64 0,.string ⟨#[]⟩,.slice none 0 0] 69);have m7:=World.alloc_heap_new X1 (.cells #[.int .i64 0,.string ⟨#[]⟩,.slice none 0 0] 69);have hN:w.heap.size<=(X1).heap.size:=hS1.size;refine hK.out _ _ hS2 (fun _=>?_);generalize (X1).alloc (.cells #[.int .i64 0,.string ⟨#[]⟩,.slice none 0 0] 69)=X2 at *;clear hK K
   try simp only[lay4]
   refine callD 9 kr rfl (fun K hK=>?_);rw[if_pos (by rfl)];go_simp;refine(HWO.out _ hS2).mono ?_;rintro e X3 ⟨wa,wc,rfl,hQ,b3⟩;have hS3:=hS2.trans (b3.mono hS2.size);replace m7:=(b3.block _ (zza.1 m7).1).trans m7;have HQ:=Hid.mk_ hQ;clear hQ;clear b3;refine hK.out _ _ hS3 (fun _=>?_);clear hK K
   try simp only[lay4]
   refine callD 11 kr rfl (fun K hK=>?_);rw[if_pos (by rfl)];refine wp_store_row 69 _ _ rfl (X1).heap.size #[.int .i64 tk,.string tn,.slice ta tl tc] rfl rfl 69 _ m7 sizeExpr rfl (ones3 ..) ?_;have hV:=below_setRow hS3 hN #[.int .i64 tk,.string tn,.slice ta tl tc];have mV:=setRow_heap _ _ _ #[.int .i64 tk,.string tn,.slice ta tl tc] _ _ m7;have HQ:=Hid.mk_ (row_setRow (cs:=#[.int .i64 tk,.string tn,.slice ta tl tc]) HQ.out m7);refine hK.out _ _ hV (fun _=>?_);generalize World.setRow X3 (X1).heap.size #[.int .i64 tk,.string tn,.slice ta tl tc]=V at *;generalize (X1).heap.size=N at *;exact k02
 ·rw[if_pos (by rfl)]
  go_simp;have hS1:=hS.alloc hS.size (.cells #[.int .i64 0,.string ⟨#[]⟩,.slice none 0 0] 69);have m7:=World.alloc_heap_new X0 (.cells #[.int .i64 0,.string ⟨#[]⟩,.slice none 0 0] 69);have hN:w.heap.size<=(X0).heap.size:=hS.size;refine hK.out _ _ hS1 (fun _=>?_);generalize (X0).alloc (.cells #[.int .i64 0,.string ⟨#[]⟩,.slice none 0 0] 69)=X1 at *;clear hK K
  try simp only[lay4]
  refine callD 3 kr rfl (fun K hK=>?_);rw[if_pos (by rfl)];go_simp;refine(HKA.out _ hS1).mono ?_;rintro e X2 ⟨rfl,b2⟩;have hS2:=hS1.trans (b2.mono hS1.size);replace m7:=(b2.block _ (zza.1 m7).1).trans m7;clear b2;refine hK.out _ _ hS2 (fun _=>?_);clear hK K
  try simp only[lay4]
  refine takeG 4 (some 16) hS2 ?_;refine takeG 5 (some 17) hS2 ?_;refine takeG 6 (some 18) hS2 ?_ (hy:=by intro w hSw;obtain⟨q0,q1,q2⟩:=HTC.out _ hSw;go_simp;with_reducible rfl);refine callD 9 kr rfl (fun K hK=>?_);rw[if_pos (by rfl)];go_simp;refine(HWO.out _ hS2).mono ?_;rintro e X3 ⟨wa,wc,rfl,hQ,b3⟩;have hS3:=hS2.trans (b3.mono hS2.size);replace m7:=(b3.block _ (zza.1 m7).1).trans m7;have HQ:=Hid.mk_ hQ;clear hQ;clear b3;refine hK.out _ _ hS3 (fun _=>?_);clear hK K
  try simp only[lay4]
  refine callD 11 kr rfl (fun K hK=>?_);rw[if_pos (by rfl)];refine wp_store_row 69 _ _ rfl (X0).heap.size #[.int .i64 tk,.string tn,.slice ta tl tc] rfl rfl 69 _ m7 sizeExpr rfl (ones3 ..) ?_;have hV:=below_setRow hS3 hN #[.int .i64 tk,.string tn,.slice ta tl tc];have mV:=setRow_heap _ _ _ #[.int .i64 tk,.string tn,.slice ta tl tc] _ _ m7;have HQ:=Hid.mk_ (row_setRow (cs:=#[.int .i64 tk,.string tn,.slice ta tl tc]) HQ.out m7);refine hK.out _ _ hV (fun _=>?_);generalize World.setRow X3 (X0).heap.size #[.int .i64 tk,.string tn,.slice ta tl tc]=V at *;generalize (X0).heap.size=N at *;exact k02
noncomputable def faultK (ks:List KindD)(gs:List Grp)(t:DataW Unit)(s:SpecD)(l:List Tok)(i:Int)(ps:List Int):Nat->Nat->Int
 | _,0=>wordF gs t l i ps
 | j,f+1=>if fitsB ks s ((l[(ps.getD j 0).toNat]?).getD ⟨0,0,0,0⟩)=true then faultK ks gs t s l i ps (j+1) f else min (ps.getD j 0) (wordF gs t l i (ps.take (j+1)))
noncomputable def faultD (ks:List KindD)(gs:List Grp)(t:DataW Unit)(s:SpecD)(l:List Tok)(i:Int):Int:=faultK ks gs t s l i (kids l i) 0 (kids l i).length
theorem row_ints {w:World}{a:Option Addr}{n:Nat}{zs:List Int}(h:Row .i64 w a n zs)(hn:n<=9223372036854775807):Ints w a n zs:=by
 obtain⟨h1,h2⟩:=h
 refine⟨h1,hn,?_⟩
 rcases h2 with h2 | ⟨b,o,h3,h4,h5⟩
 ·exact .inl h2
 ·exact .inr ⟨b,o,h3,h4,fun i x hx=>by
   have:=h5 i (by have:=(zzc.1 hx).1;omega)
   rw[List.getD_eq_getElem?_getD,hx] at this
   exact this⟩
theorem k116{p:Prop}(h:p:=by
  obtain⟨b,o,y,h1,_,h3,h4⟩:=hl.token hp;obtain⟨d1,d2,d3,d4⟩:=h4 X hX;exact⟨b,o,y,h1,h3,d1,d2,d3,d4⟩
  ):p:=h
theorem faultin_calls {B g c ng nc:Nat}{ks:List KindD}{gs:List Grp}{ts:List (DataW Unit)}(w:World)(h:SchAt w B g c ng nc ks gs ts)(h0:0<ks.length)(a:Option Addr)(len cap:Nat)(l:List Tok)(hl:Toks w a len l)(hlie:Lies a len cap)(hsz:len<=2048)(i:Int)(kx:Nat)(t:DataW Unit)(ht:ts[kx]? = some t)
  (hka:∀X,Below w.heap.size w X->Calls Tryz.prog 47 #[.pointer (some ⟨B,0,none⟩),.slice a len cap,.int .i64 i] X fun e w' => e=.returned (.pointer (some ⟨g,kx * 10,none⟩))/\Below X.heap.size X w')
  (hkl:(kids l i).length<=2048)(hps:∀p∈kids l i,0<=p/\p<len) :
  Calls Tryz.prog 70 #[.pointer (some ⟨B,0,none⟩),.slice a len cap,.int .i64 i] w fun e w' => e=.returned (.int .i64 (faultD ks gs t (specOf ks kx) l i))/\Below w.heap.size w w' := by
 obtain⟨x,hx⟩:∃x,ks[kx]? = some x:=⟨_,zze (by have:=(zzc.1 ht).1;have:=h.len;omega)⟩
 rw[specOf_some hx]
 unfold faultD
 generalize hps0:kids l i=ps at *
 have HKA:=Hid.mk_ hka
 have HKI:Hid (∀X,Below w.heap.size w X->Calls Tryz.prog 42 #[.slice a len cap,.int .i64 i] X fun e w' => ∃a' cap', e=.returned (.slice a' ps.length cap')/\Ints w' a' ps.length ps/\ps.length<=cap' /\ cap' <= 9223372036854775807/\Below X.heap.size X w'):=fun X hX=>by
  refine(fkids_calls a len cap l i X (hl.below hX) oo).mono ?_;rintro e w' ⟨a', cap', rfl,h1,h2⟩;rw[hps0] at h1 ⊢;exact⟨a', cap', rfl,row_ints h1.1 oo,h1.2.1,h1.2.2,h2⟩
 have HFI:Hid (∀X (y:Tok),Below w.heap.size w X->Calls Tryz.prog 105 #[.pointer (some ⟨B,0,none⟩),tokV y,.pointer (some ⟨g,kx * 10,none⟩)] X fun e w' => e=.returned (.bool (fitsB ks x.1 y))/\Below X.heap.size X w'):=fun X y hX=>sfits_calls X (h.below hX) h0 y x.1 (kx * 10) ((h.below hX).kinds kx x hx).1
 have HWF:Hid (∀X (ka:Option Addr) (kl kc:Nat) (qs:List Int),Below w.heap.size w X->Ints X ka kl qs->kl<=2048->(∀p∈qs,p∈ps)->Calls Tryz.prog 106 #[.pointer (some ⟨B,0,none⟩),.slice a len cap,.int .i64 i,.slice ka kl kc] X fun e w' => e=.returned (.int .i64 (wordF gs t l i qs))/\Below X.heap.size X w'):=fun X ka kl kc qs hX hq hk hm=>wordfault_calls X (h.below hX) a len cap l (hl.below hX) hlie hsz i kx t ht (fun Y hY=>hka Y (hX.trans (hY.mono hX.size))) ka kl kc qs hq oo (fun p hp=>hps p (hm p hp))
 have HL:Hid (∀(X:World) (p:Nat),Below w.heap.size w X->p<len->∃b o y,a=some ⟨b,o,none⟩/\l[p]? = some y/\X.cell? ⟨b,o+p * 4,none⟩=some (.int .i64 y.k)/\X.cell? ⟨b,o+p * 4+1,none⟩=some (.int .i64 y.t)/\X.cell? ⟨b,o+p * 4+2,none⟩=some (.int .i64 y.n)/\X.cell? ⟨b,o+p * 4+3,none⟩=some (.int .i64 y.m)):=fun X p hX hp=>by
  exact k116
 have HPS:=Hid.mk_ hps
 have hli:(len:Int)<=2048:=by omega
 have hpi:(ps.length:Int)<=2048:=by omega
 clear h hl hlie hka hps ht hx hps0
 obtain⟨xs,xr⟩:=x
 dsimp only at *
 go_enter Tryz.func70,Tryz.ntmps70
 go_wp2_with fail
 refine(HKA.out w (zzd _ _)).mono ?_
 rintro e W1 ⟨rfl,hB1⟩
 have HB1:=Hid.mk_ hB1
 have HC2:=HKI.out W1 hB1
 clear hB1 HKA HKI
 go_wp2_with fail
 refine HC2.mono ?_
 rintro e W2 ⟨ka,kc,rfl,hk,hkc1,hkc2,hB2⟩
 have HB2:=Hid.mk_ (HB1.out.trans (hB2.mono HB1.out.size))
 have HK:Hid (∀(X:World),Below W2.heap.size W2 X->Ints X ka ps.length ps):=fun X hX=>hk.below hX
 have HKC:Hid (∀(X:World) (j:Nat),Below W2.heap.size W2 X->j<ps.length->∃b o p,ka=some ⟨b,o,none⟩/\ps[j]? = some p/\X.cell? ⟨b,o+j,none⟩=some (.int .i64 p)):=fun X j hX hj=>by
  obtain⟨b,o,p,h1,h2,h3⟩:=hk.at hj;exact⟨b,o,p,h1,h2,h3 X hX⟩
 have hkc3:(ps.length:Int)<=(kc:Int):=by omega
 have hkc4:(kc:Int)<=9223372036854775807:=by omega
 clear hk hB2 HC2 HB1
 go_wp2
 go_loopg [20] (ps.length+1) (fun gk v wr=>∃j:Nat,j<=ps.length/\ps.length<j+gk/\v=.int .i64 (j:Int)/\faultK ks gs t xs l i ps j (ps.length - j)=faultK ks gs t xs l i ps 0 ps.length/\Below W2.heap.size W2 wr)
 case atStart=>exact⟨0,zzn _,oo,rfl,by rw[Nat.sub_zero],zzd _ _⟩
 case round=>
  obtain⟨j,hj,hgk,rfl,hF,hB⟩:=hrel
  by_cases hlt:j<ps.length
  ·obtain⟨b,o,p,rfl,hp,c0⟩:=HKC.out wr j hB hlt
   obtain⟨hp0,hp1⟩:=HPS.out p (zzj hp);obtain⟨q,rfl⟩:∃q:Nat,p=(q:Int):=⟨p.toNat,oo⟩;have hBw:=HB2.out.trans (hB.mono HB2.out.size);obtain⟨b', o', y,rfl,hy,d1,d2,d3,d4⟩:=HL.out wr q hBw oo;(have hii:(j:Int)<(ps.length:Int):=by omega);(have hj0:(0:Int)<=(j:Int):=by omega);(have hd:decide ((j:Int)<(ps.length:Int))=true:=by simpa using hii);(have hgp:ps.getD j 0=(q:Int):=by rw[List.getD_eq_getElem?_getD,hp];rfl);(have hgy:(l[(ps.getD j 0).toNat]?).getD ⟨0,0,0,0⟩=y:=by rw[hgp,Int.toNat_natCast,hy];rfl);(have hst:ps.length - j=(ps.length - (j+1))+1:=by omega);rw[hst,faultK,hgy,hgp] at hF;have HFT:=HFI.out wr y hBw;obtain⟨r,hr⟩:∃r,fitsB ks xs y=r:=⟨_,rfl⟩;rw[hr] at hF HFT;have HBw:=Hid.mk_ hBw;have HBr:=Hid.mk_ hB;have HFF:=Hid.mk_ hF;unfold tokV at HFT;clear hF hB hBw hp hy hr hgp hgy hst HKC HFI HL;obtain⟨yk,yt,yn,ym⟩:=y;dsimp only at *;(go_wp2_with fail);refine HFT.mono ?_;rintro e W3 ⟨rfl,hB3⟩;have HB3:=Hid.mk_ (HBr.out.trans (hB3.mono HBr.out.size));clear hB3 HFT;cases r with
   | true=>
    have HN:Hid (faultK ks gs t xs l i ps (j+1) (ps.length - (j+1))=faultK ks gs t xs l i ps 0 ps.length):=by
     have:=HFF.out
     rw[if_pos rfl] at this;exact this
    clear HFF;go_wp2
    go_roundg (ps.length - j)
    case measure=>omega
    case rel=>exact⟨j+1,oo,oo,by first | rfl | go_num,HN.out,HB3.out⟩
   | false=>
    have HN:Hid (faultK ks gs t xs l i ps 0 ps.length=min (q:Int) (wordF gs t l i (ps.take (j+1)))):=by
     have:=HFF.out
     rw[if_neg (by simp)] at this;exact this.symm
    have hB23:=HB2.out.trans (HB3.out.mono HB2.out.size)
    have hint:Ints W3 (some ⟨b,o,none⟩) (j+1) (ps.take (j+1)):=by
     have h1:=HK.out W3 HB3.out;refine⟨by rw[List.length_take];omega,oo,.inr ?_⟩;rcases h1.2.2 with h2 | ⟨b2,o2,e2,h3,h4⟩
     ·omega
     ·refine⟨b2,o2,e2,h3,fun k z hz=>h4 k z ?_⟩
      rw[List.getElem?_take] at hz
      split at hz
      ·exact hz
      ·cases hz
    (have HWX:Hid (∀kc', Calls Tryz.prog 106 #[.pointer (some ⟨B,0,none⟩),.slice (some ⟨b', o', none⟩) len cap,.int .i64 i,.slice (some ⟨b,o,none⟩) (j+1) kc'] W3 fun e w' => e=.returned (.int .i64 (wordF gs t l i (ps.take (j+1))))/\Below W3.heap.size W3 w'):=fun kc' => HWF.out W3 (some ⟨b,o,none⟩) (j+1) kc' (ps.take (j+1)) hB23 hint oo (fun p hp=>List.mem_of_mem_take hp));have HB23:=Hid.mk_ hB23;generalize wordF gs t l i (ps.take (j+1))=R at *;clear hB23 hint HFF HK HWF;(have hjk:(j:Int)+1<=(kc:Int):=by omega);(have hjk2:j+1<=kc:=by omega);(go_wp2_with fail);refine(HWX.out _).mono ?_;rintro e W4 ⟨rfl,hB4⟩;have HB4:=Hid.mk_ (HB23.out.trans (hB4.mono HB23.out.size));clear hB4 HWX;go_wp2;go_ret;exact⟨by rw[HN.out];first | rfl | (congr 1;congr 1;omega),HB4.out⟩
  ·obtain rfl:j=ps.length:=by omega
   (have hd:decide ((ps.length:Int)<(ps.length:Int))=false:=by simp);have hBw:=HB2.out.trans (hB.mono HB2.out.size);have HWX:=HWF.out wr ka ps.length kc ps hBw (HK.out wr hB) oo (fun p hp=>hp);have HBw:=Hid.mk_ hBw
   have HN:Hid (faultK ks gs t xs l i ps 0 ps.length=wordF gs t l i ps):=by
    rw[Nat.sub_self,faultK] at hF;exact hF.symm
   generalize wordF gs t l i ps=R at *;clear hF hB hBw HK HKC HWF HFI HL;(go_wp2_with fail);refine HWX.mono ?_;rintro e W4 ⟨rfl,hB4⟩;have HB4:=Hid.mk_ (HBw.out.trans (hB4.mono HBw.out.size));clear hB4 HWX;go_wp2;go_ret;exact⟨by rw[HN.out];rfl,HB4.out⟩
theorem kidsL_length (l:List Tok)(i:Int)(k f:Nat)(out:List Int):(kidsL l i k f out).length<=out.length+f:=by
 induction f generalizing k out with
 | zero=>rw[kidsL];omega
 | succ f ih=>
  rw[kidsL]
  split
  ·omega
  ·split
   ·have:=ih (k+1) (out++[(k:Int)])
    rw[List.length_append,List.length_singleton] at this;omega
   ·have:=ih (k+1) out
    omega
theorem kidsL_in (l:List Tok)(i:Int)(n:Nat):∀(f k:Nat) (out:List Int),k+f<=n->(∀p∈out,0<=p/\p<n)->∀p∈kidsL l i k f out,0<=p/\p<n:=by
 intro f
 induction f with
 | zero=>intro k out _ h;rw[kidsL];exact h
 | succ f ih=>
  intro k out hk h;rw[kidsL]
  split
  ·exact h
  ·refine ih (k+1) _ oo ?_
   split
   ·intro p hp
    rcases List.mem_append.1 hp with hp | hp
    ·exact h p hp
    ·rw[List.mem_singleton] at hp
     subst hp;omega
   ·exact h
theorem kids_few (l:List Tok)(i:Int):(kids l i).length<=l.length:=by
 unfold kids
 split
 ·exact zzn _
 ·have:=kidsL_length l i (i+1).toNat (l.length - (i+1).toNat) []
  rw[List.length_nil] at this;omega
theorem kids_in (l:List Tok)(i:Int):∀p∈kids l i,0<=p/\p<l.length:=by
 unfold kids
 split
 ·intro p hp;cases hp
 ·rename_i h
  exact kidsL_in l i l.length _ _ _ oo (fun p hp=>by cases hp)
noncomputable def faultAt (ks:List KindD)(gs:List Grp)(ts:List (DataW Unit))(l:List Tok)(i:Nat):Int:=faultD ks gs (ts.getD (typeAt l i).toNat emptyT) (specOf ks (typeAt l i).toNat) l i
noncomputable def foldF (ks:List KindD)(gs:List Grp)(ts:List (DataW Unit))(l:List Tok):Nat->Nat->Int->Int
 | _,0,f=>f
 | i,n+1,f=>if f<=(i:Int) then f else if kindAt l i=1 then foldF ks gs ts l (i+1) n (min f (faultAt ks gs ts l i)) else foldF ks gs ts l (i+1) n f
noncomputable def firstS (ks:List KindD)(gs:List Grp)(ts:List (DataW Unit))(l:List Tok):Int:=foldF ks gs ts l 0 l.length (faultD ks gs (ts.getD 0 emptyT) (specOf ks 0) l (-1))
theorem getD_at {ts:List (DataW Unit)}{i:Nat}(h:i<ts.length):ts[i]? = some (ts.getD i emptyT):=by
 rw[List.getD_eq_getElem?_getD,zze h]
 rfl
theorem firstfault_calls {B g c ng nc:Nat}{ks:List KindD}{gs:List Grp}{ts:List (DataW Unit)}(w:World)(h:SchAt w B g c ng nc ks gs ts)(h0:0<ks.length)(a:Option Addr)(len cap:Nat)(l:List Tok)(hl:Toks w a len l)(hlie:Lies a len cap)(hsz:len<=2048)(hty:∀(i:Nat) (x:Tok),l[i]? = some x->x.k=1->0<=x.t/\x.t<ks.length) :
  Calls Tryz.prog 34 #[.pointer (some ⟨B,0,none⟩),.slice a len cap] w fun e w' => e=.returned (.int .i64 (firstS ks gs ts l))/\Below w.heap.size w w' := by
 have hll:=hl.1
 have HF0:Hid (Calls Tryz.prog 70 #[.pointer (some ⟨B,0,none⟩),.slice a len cap,.int .i64 (-1)] w fun e w' => e=.returned (.int .i64 (faultD ks gs (ts.getD 0 emptyT) (specOf ks 0) l (-1)))/\Below w.heap.size w w') :=
  faultin_calls w h h0 a len cap l hl hlie hsz (-1) 0 _ (getD_at (by have:=h.len;omega)) (fun X hX=>kindat_out X (h.below hX) h0 _) (by have:=kids_few l (-1);omega) (fun p hp=>by have:=kids_in l (-1) p hp;omega)
 have HFI:Hid (∀(X:World) (i:Nat) (x:Tok),Below w.heap.size w X->l[i]? = some x->x.k=1->Calls Tryz.prog 70 #[.pointer (some ⟨B,0,none⟩),.slice a len cap,.int .i64 (i:Int)] X fun e w' => e=.returned (.int .i64 (faultAt ks gs ts l i))/\Below X.heap.size X w'):=fun X i x hX hx hk=>by
  obtain⟨t0,t1⟩:=hty i x hx hk;(have hta:typeAt l (i:Int)=x.t:=by unfold typeAt;rw[Int.toNat_natCast,hx];rfl);unfold faultAt;rw[hta];exact faultin_calls X (h.below hX) h0 a len cap l (hl.below hX) hlie hsz (i:Int) x.t.toNat _ (getD_at (by have:=h.len;omega)) (fun Y hY=>kindat_in Y (h.below (hX.trans (hY.mono hX.size))) a len cap l (hl.below (hX.trans (hY.mono hX.size))) hsz i x hx t0 t1) (by have:=kids_few l i;omega) (fun p hp=>by have:=kids_in l i p hp;omega)
 have HL:Hid (∀(X:World) (p:Nat),Below w.heap.size w X->p<len->∃b o y,a=some ⟨b,o,none⟩/\l[p]? = some y/\X.cell? ⟨b,o+p * 4,none⟩=some (.int .i64 y.k)/\X.cell? ⟨b,o+p * 4+1,none⟩=some (.int .i64 y.t)/\X.cell? ⟨b,o+p * 4+2,none⟩=some (.int .i64 y.n)/\X.cell? ⟨b,o+p * 4+3,none⟩=some (.int .i64 y.m)):=fun X p hX hp=>by
  exact k116
 unfold firstS
 obtain⟨f0,hf0⟩:∃f0,faultD ks gs (ts.getD 0 emptyT) (specOf ks 0) l (-1)=f0:=⟨_,rfl⟩
 rw[hf0] at HF0 ⊢
 rw[hll]
 have hli:(len:Int)<=2048:=by omega
 clear h hl hlie hty hf0
 go_enter Tryz.func34,Tryz.ntmps34
 go_wp2_with fail
 refine HF0.out.mono ?_
 rintro e W1 ⟨rfl,hB1⟩
 have HB1:=Hid.mk_ hB1
 clear hB1 HF0
 go_wp2
 go_loopg [5,13] (len+1) (fun gk u v wr=>∃(i:Nat) (f:Int),i<=len/\len<i+gk/\u=.int .i64 f/\v=.int .i64 (i:Int)/\foldF ks gs ts l i (len - i) f=foldF ks gs ts l 0 len f0/\Below w.heap.size w wr)
 case atStart=>exact⟨0,f0,zzn _,oo,rfl,rfl,by rw[Nat.sub_zero],HB1.out⟩
 case round=>
  obtain⟨i,f,hi,hgk,rfl,rfl,hF,hB⟩:=hrel;clear HB1
  by_cases hlt:i<len
  ·obtain⟨b,o,y,rfl,hy,d1,d2,d3,d4⟩:=HL.out wr i hB hlt
   (have hii:(i:Int)<(len:Int):=by omega);(have hi0:(0:Int)<=(i:Int):=by omega);(have hd:decide ((i:Int)<(len:Int))=true:=by simpa using hii);(have hst:len - i=(len - (i+1))+1:=by omega);rw[hst,foldF,kindAt_some hy] at hF;obtain⟨V,hV⟩:∃V,V=wr.alloc (.cells #[.int .i64 y.k,.int .i64 y.t,.int .i64 y.n,.int .i64 y.m] 58):=⟨_,rfl⟩;(have hBV:Below w.heap.size w V:=by rw[hV];exact hB.alloc hB.size _);(have m0:V.heap[wr.heap.size]? = some (.cells #[.int .i64 y.k,.int .i64 y.t,.int .i64 y.n,.int .i64 y.m] 58 (0,0)):=by rw[hV];exact World.alloc_heap_new wr _);have k0:V.cell? ⟨wr.heap.size,0,none⟩=some (.int .i64 y.k):=cell_of_row V wr.heap.size 0 _ _ _ m0;have HV:Hid (wr.alloc (.cells #[.int .i64 y.k,.int .i64 y.t,.int .i64 y.n,.int .i64 y.m] 58)=V):=hV.symm;have HBV:=Hid.mk_ hBV
   by_cases dg:f<=(i:Int)
   ·have hdg:decide (f<=(i:Int))=true:=by simpa using dg
    (have HE:Hid (foldF ks gs ts l 0 len f0=f):=by rw[if_pos dg] at hF;exact hF.symm);(have HBA:Hid (∀o,Below w.heap.size w (wr.alloc o)):=fun o=>hB.alloc hB.size o);clear hF hB hBV m0 hV hst hy;go_wp2;go_ret;exact⟨by rw[HE.out];rfl,HBA.out _⟩
   ·have hdg:decide (f<=(i:Int))=false:=by simpa using dg
    rw[if_neg dg] at hF
    by_cases dk:y.k=1
    ·have hdk:(y.k==1)=true:=by simpa using dk
     rw[if_pos dk] at hF;have HFX:=HFI.out V i y hBV hy dk;have HFF:=Hid.mk_ hF;generalize faultAt ks gs ts l i=fa at *;clear hF hB hBV m0 hV hst hy dk dg;(go_wp2_with fail);rw[HV.out];refine HFX.mono ?_;rintro e W3 ⟨rfl,hB3⟩;have HB3:=Hid.mk_ (HBV.out.trans (hB3.mono HBV.out.size));clear hB3 HFX;go_wp2
     go_roundg (len - i)
     case measure=>omega
     case rel=>exact⟨i+1,min f fa,oo,oo,by first | rfl | (congr 1;omega),by first | rfl | go_num,HFF.out,HB3.out⟩
    ·have hdk:(y.k==1)=false:=by simpa using dk
     rw[if_neg dk] at hF;have HFF:=Hid.mk_ hF;(have HBA:Hid (∀o,Below w.heap.size w (wr.alloc o)):=fun o=>hB.alloc hB.size o);clear hF hB hBV m0 hV hst hy dk dg;go_wp2
     go_roundg (len - i)
     case measure=>omega
     case rel=>exact⟨i+1,f,oo,oo,rfl,by first | rfl | go_num,HFF.out,HBA.out _⟩
  ·obtain rfl:i=len:=by omega
   have hd:decide ((i:Int)<(i:Int))=false:=by simp
   have HE:Hid (foldF ks gs ts l 0 i f0=f/\Below w.heap.size w wr):=by
    rw[Nat.sub_self,foldF] at hF;exact⟨hF.symm,hB⟩
   clear hF hB;go_wp2;go_ret;exact⟨by rw[HE.out.1];rfl,HE.out.2⟩
noncomputable def checkS (ks:List KindD)(gs:List Grp)(ts:List (DataW Unit))(l:List Tok):Int×Int :=
 if (check l).2≠0 then check l else if firstS ks gs ts l≠2049 then (firstS ks gs ts l,9) else ((l.length:Int),0)
theorem k36{p:Prop}(h:p:=by
  go_enter Tryz.func10,Tryz.ntmps10;(go_wp2_with fail);refine HM.out.mono ?_;rintro e W ⟨rfl,rfl⟩;(go_wp2_with fail);refine HC.out.mono ?_;rintro e W1 ⟨rfl,hB1⟩;have HB1:=Hid.mk_ hB1;have HF1:=HF.out W1 hB1;clear hB1 HC HM HF;(go_wp2_with fail);refine HF1.mono ?_;rintro e W2 ⟨rfl,hB2⟩;have HB2:=Hid.mk_ (HB1.out.trans (hB2.mono HB1.out.size));clear hB2 HF1;go_wp2;go_ret2;exact⟨rfl,HB2.out⟩
  ):p:=h
theorem scheck_calls {B g c ng nc:Nat}{ks:List KindD}{gs:List Grp}{ts:List (DataW Unit)}(w:World)(h:SchAt w B g c ng nc ks gs ts)(h0:0<ks.length)(a:Option Addr)(len cap:Nat)(l:List Tok)(hl:Toks w a len l)(hlie:Lies a len cap)(hsz:len<=4398046511104)(hty:(check l).2=0->∀(i:Nat) (x:Tok),l[i]? = some x->x.k=1->0<=x.t/\x.t<ks.length) :
  Calls Tryz.prog 10 #[.pointer (some ⟨B,0,none⟩),.slice a len cap] w fun e w' => e=.returned (.tuple #[.int .i64 (checkS ks gs ts l).1,.int .i64 (checkS ks gs ts l).2])/\Below w.heap.size w w' := by
 have HM:=Hid.mk_ (ismade_calls w h h0)
 have HC:Hid (Calls Tryz.prog 33 #[.slice a len cap] w fun e w' => e=.returned (.tuple #[.int .i64 (check l).1,.int .i64 (check l).2])/\Below w.heap.size w w'):=fcheck_calls a len cap l w hl hsz
 have hll:=hl.1
 obtain⟨ca,cb,hc⟩:∃ca cb,check l=(ca,cb):=⟨_,_,rfl⟩
 have HFF:Hid (cb=0->∀X,Below w.heap.size w X->Calls Tryz.prog 34 #[.pointer (some ⟨B,0,none⟩),.slice a len cap] X fun e w' => e=.returned (.int .i64 (firstS ks gs ts l))/\Below X.heap.size X w'):=fun hz X hX=>by
  (have hc2:(check l).2=0:=by rw[hc];exact hz);have h20:=((check_ok l).1 hc2).1;exact firstfault_calls X (h.below hX) h0 a len cap l (hl.below hX) hlie oo (hty hc2)
 unfold checkS
 rw[hc] at HC ⊢
 dsimp only at HC ⊢
 generalize firstS ks gs ts l=ff at *
 rw[hll]
 have hli:(len:Int)<=4398046511104:=by omega
 clear h hl hlie hty hc hll
 by_cases d0:cb≠0
 ·rw[if_pos d0]
  (have e0:(cb==0)=false:=by simpa using d0);(have e1:(cb != 0)=true:=by simp[bne,e0]);clear HFF;go_enter Tryz.func10,Tryz.ntmps10;(go_wp2_with fail);refine HM.out.mono ?_;rintro e W ⟨rfl,rfl⟩;(go_wp2_with fail);refine HC.out.mono ?_;rintro e W1 ⟨rfl,hB1⟩;have HB1:=Hid.mk_ hB1;clear hB1 HC HM;go_wp2;go_ret2;exact⟨rfl,HB1.out⟩
 ·rw[if_neg d0]
  have d0:cb=0:=Classical.not_not.1 d0;subst d0;have e1:((0:Int) != 0)=false:=rfl;have HF:=Hid.mk_ (HFF.out rfl);clear HFF
  by_cases d1:ff≠2049
  ·rw[if_pos d1]
   (have e2:(ff==2049)=false:=by simpa using d1);(have e3:(ff != 2049)=true:=by simp[bne,e2]);exact k36
  ·rw[if_neg d1]
   have d1:ff=2049:=Classical.not_not.1 d1;subst d1;have e3:((2049:Int) != 2049)=false:=rfl;exact k36
end Go.Proofs.YtjkebndkeamijaaGreatDoor
